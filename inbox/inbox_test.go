package inbox

import (
	"math"
	"slices"
	"strconv"
	"testing"

	"sexton/api"
)

// chance is numbers that look like chance, and are the same each time.
type chance uint64

func (x *chance) below(n int) int {
	*x = *x*6364136223846793005 + 1442695040888963407
	return int(uint32(*x>>32) % uint32(n))
}

// made is an inbox with that room.
func made(t *testing.T, room int) *Inbox {
	t.Helper()
	b, e := New(room)
	if e != api.OK || b == nil {
		t.Fatalf("New(%d): %v, %v", room, b, e)
	}
	return b
}

// put puts texts into a row.
func put(t *testing.T, b *Inbox, urgent bool, l ...string) {
	t.Helper()
	for _, s := range l {
		if e := b.Put(urgent, s); e != api.OK {
			t.Fatalf("Put(%v, %q): %v", urgent, s, e)
		}
	}
}

// has fails, if an inbox has not as many texts.
func has(t *testing.T, b *Inbox, urgent, usual int) {
	t.Helper()
	if n, m := b.Len(); n != urgent || m != usual {
		t.Errorf("Len: %d, %d, want %d, %d", n, m, urgent, usual)
	}
}

// takes fails, if Take tells something else.
func takes(t *testing.T, b *Inbox, s string, urgent bool, want api.Errno) {
	t.Helper()
	if got, was, e := b.Take(); got != s || was != urgent || e != want {
		t.Errorf("Take: %q, %v, %v, want %q, %v, %v", got, was, e, s, urgent, want)
	}
}

// 23.1

func TestNew(t *testing.T) {
	for _, room := range []int{math.MinInt, -1 << 32, -1, 0, 257, 258, 1 << 32, math.MaxInt} {
		if b, e := New(room); b != nil || e != api.ErrArg {
			t.Errorf("New(%d): %v, %v", room, b, e)
		}
	}
	for _, room := range []int{1, 2, 255, 256} {
		b := made(t, room)
		has(t, b, 0, 0)
		takes(t, b, "", false, api.ErrNone)
	}
}

func TestRoom(t *testing.T) {
	for _, room := range []int{1, 2, 7, 255, 256} {
		for _, urgent := range []bool{true, false} {
			b := made(t, room)
			for i := range room {
				put(t, b, urgent, strconv.Itoa(i))
			}
			if e := b.Put(urgent, "more"); e != api.ErrFull {
				t.Errorf("room %d, urgent %v: %v", room, urgent, e)
			}
			put(t, b, !urgent, "other") // each row has room of its own
			if urgent {
				has(t, b, room, 1)
			} else {
				has(t, b, 1, room)
				takes(t, b, "other", true, api.OK)
			}
			takes(t, b, "0", urgent, api.OK)
			put(t, b, urgent, "behind") // what is taken makes room for one
			if e := b.Put(urgent, "more"); e != api.ErrFull {
				t.Errorf("room %d, urgent %v, behind a Take: %v", room, urgent, e)
			}
		}
	}
}

func TestEmptyText(t *testing.T) {
	for _, urgent := range []bool{true, false} {
		b := made(t, 2)
		put(t, b, urgent, "", "x")
		takes(t, b, "", urgent, api.OK)
		takes(t, b, "x", urgent, api.OK)
		takes(t, b, "", false, api.ErrNone)
		put(t, b, urgent, "")
		if l := b.Drain(); len(l) != 1 || l[0] != "" {
			t.Errorf("Drain: %q", l)
		}
	}
}

func TestLongText(t *testing.T) {
	b := made(t, 1)
	long := string(make([]byte, 100000))
	put(t, b, false, long)
	takes(t, b, long, false, api.OK)
}

// 23.2

func TestTakeOfOneRow(t *testing.T) {
	for _, urgent := range []bool{true, false} {
		b := made(t, 3)
		put(t, b, urgent, "a", "b", "c")
		takes(t, b, "a", urgent, api.OK)
		takes(t, b, "b", urgent, api.OK)
		takes(t, b, "c", urgent, api.OK)
		has(t, b, 0, 0)
		takes(t, b, "", false, api.ErrNone)
	}
}

func TestTakeOfBoth(t *testing.T) {
	b := made(t, 3)
	put(t, b, false, "a", "b")
	put(t, b, true, "x")
	takes(t, b, "x", true, api.OK)
	takes(t, b, "a", false, api.OK)
	put(t, b, true, "y") // it comes late, and is told ahead of b
	takes(t, b, "y", true, api.OK)
	takes(t, b, "b", false, api.OK)
	takes(t, b, "", false, api.ErrNone)
}

func TestDrain(t *testing.T) {
	b := made(t, 3)
	if l := b.Drain(); len(l) != 0 {
		t.Errorf("of an empty one: %q", l)
	}
	put(t, b, false, "a", "b")
	if l := b.Drain(); !slices.Equal(l, []string{"a", "b"}) {
		t.Errorf("of usual ones: %q", l)
	}
	has(t, b, 0, 0)
	put(t, b, true, "x", "y")
	if l := b.Drain(); !slices.Equal(l, []string{"x", "y"}) {
		t.Errorf("of urgent ones: %q", l)
	}
	put(t, b, false, "a", "b", "c")
	put(t, b, true, "x", "y", "z")
	has(t, b, 3, 3)
	if l := b.Drain(); !slices.Equal(l, []string{"x", "y", "z", "a", "b", "c"}) {
		t.Errorf("of both: %q", l)
	}
	has(t, b, 0, 0)
	takes(t, b, "", false, api.ErrNone)
	put(t, b, false, "a", "b", "c") // there is room again
}

func TestDrainedStays(t *testing.T) {
	b := made(t, 4)
	put(t, b, false, "a", "b")
	first := b.Drain()
	kept := slices.Clone(first[:cap(first)])
	put(t, b, false, "c", "d")
	put(t, b, true, "e")
	second := b.Drain()
	b.Close()
	if !slices.Equal(first[:cap(first)], kept) {
		t.Errorf("what was told changed: %q", first)
	}
	first[0] = "z"
	if !slices.Equal(second, []string{"e", "c", "d"}) {
		t.Errorf("what was told later changed: %q", second)
	}
}

func TestClose(t *testing.T) {
	b := made(t, 2)
	put(t, b, false, "a", "b")
	put(t, b, true, "x")
	b.Close()
	has(t, b, 1, 2)
	for _, urgent := range []bool{true, false} {
		if e := b.Put(urgent, "q"); e != api.ErrState { // the usual row is full, too: that it is closed comes first
			t.Errorf("urgent %v: %v", urgent, e)
		}
	}
	has(t, b, 1, 2)
	takes(t, b, "x", true, api.OK)
	takes(t, b, "a", false, api.OK)
	b.Close() // once more changes nothing
	if l := b.Drain(); !slices.Equal(l, []string{"b"}) {
		t.Errorf("Drain: %q", l)
	}
	takes(t, b, "", false, api.ErrNone)
	has(t, b, 0, 0)
	if e := b.Put(true, "q"); e != api.ErrState {
		t.Error(e)
	}
	if l := b.Drain(); len(l) != 0 {
		t.Errorf("Drain: %q", l)
	}
}

func TestNoInbox(t *testing.T) {
	var none *Inbox
	for _, b := range []*Inbox{none, {}} { // one that New did not make is as a nil one
		for _, urgent := range []bool{true, false} {
			if e := b.Put(urgent, "a"); e != api.ErrState {
				t.Errorf("Put: %v", e)
			}
		}
		takes(t, b, "", false, api.ErrNone)
		if l := b.Drain(); len(l) != 0 {
			t.Errorf("Drain: %q", l)
		}
		has(t, b, 0, 0)
		b.Close()
		if e := b.Put(false, "a"); e != api.ErrState {
			t.Errorf("Put behind Close: %v", e)
		}
	}
}

// 23.3

// model is an inbox as the chapter's words say.
type model struct {
	room   int
	rows   [2][]string // the urgent one, the usual one
	closed bool
}

func (x *model) row(urgent bool) *[]string {
	if urgent {
		return &x.rows[0]
	}
	return &x.rows[1]
}

func (x *model) put(urgent bool, s string) api.Errno {
	l := x.row(urgent)
	switch {
	case x.closed:
		return api.ErrState
	case len(*l) == x.room:
		return api.ErrFull
	}
	*l = append(*l, s)
	return api.OK
}

func (x *model) take() (string, bool, api.Errno) {
	for i, l := range x.rows {
		if len(l) > 0 {
			x.rows[i] = l[1:]
			return l[0], i == 0, api.OK
		}
	}
	return "", false, api.ErrNone
}

func (x *model) drain() []string {
	l := slices.Concat(x.rows[0], x.rows[1])
	x.rows = [2][]string{}
	return l
}

func TestWalk(t *testing.T) {
	for seed := range 200 {
		x := chance(seed)
		room := 1 + x.below(9)
		b, m := made(t, room), &model{room: room}
		for step := range 300 {
			switch x.below(40) {
			default:
				urgent, s := x.below(2) == 0, strconv.Itoa(step)
				if got, want := b.Put(urgent, s), m.put(urgent, s); got != want {
					t.Fatalf("seed %d, step %d: Put %v, want %v", seed, step, got, want)
				}
			case 0, 1, 2, 3, 4, 5, 6, 7, 8, 9, 10, 11, 12, 13, 14, 15, 16:
				s, urgent, e := b.Take()
				if s2, urgent2, e2 := m.take(); s != s2 || urgent != urgent2 || e != e2 {
					t.Fatalf("seed %d, step %d: Take %q, %v, %v, want %q, %v, %v", seed, step, s, urgent, e, s2, urgent2, e2)
				}
			case 17:
				if got, want := b.Drain(), m.drain(); !slices.Equal(got, want) {
					t.Fatalf("seed %d, step %d: Drain %q, want %q", seed, step, got, want)
				}
			case 18:
				if x.below(20) == 0 {
					b.Close()
					m.closed = true
				}
			}
			if n, u := b.Len(); n != len(m.rows[0]) || u != len(m.rows[1]) {
				t.Fatalf("seed %d, step %d: Len %d, %d", seed, step, n, u)
			}
		}
	}
}

func TestExample(t *testing.T) {
	b := made(t, 2)
	put(t, b, false, "a")
	put(t, b, true, "b")
	takes(t, b, "b", true, api.OK)
	takes(t, b, "a", false, api.OK)
}
