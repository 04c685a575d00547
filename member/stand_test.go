package member

import (
	"math"
	"testing"

	"sexton/api"
	"sexton/mach"
	"sexton/memo"
)

// 24.1, 24.2

func TestNew(t *testing.T) {
	panels := map[int]int{1: 0, 3: 1, 5: 2, 7: 3} // f of n
	for n := -1; n <= 9; n++ {
		f, isPanel := panels[n]
		for id := -1; id <= max(n, 1); id++ {
			x, e := New(id, n)
			if !isPanel || id < 0 || id >= n {
				if x != nil || e != api.ErrArg {
					t.Errorf("New(%d, %d): %v, %v", id, n, x, e)
				}
				continue
			}
			if e != api.OK {
				t.Fatalf("New(%d, %d): %v", id, n, e)
			}
			stands(t, x, Stand{Up: true, Status: Normal})
			if len(x.Items()) != 0 {
				t.Errorf("New(%d, %d) has items", id, n)
			}
			want := api.State{}
			if id <= f {
				want = mach.New()
			}
			if !sameState(x.State(), want) {
				t.Errorf("New(%d, %d) has the state %v", id, n, x.State())
			}
		}
	}
	for _, wrong := range [][2]int{{math.MinInt, 3}, {math.MaxInt, 3}, {0, math.MinInt}, {0, math.MaxInt}, {1 << 32, 3}, {0, 1<<32 + 3}} {
		if x, e := New(wrong[0], wrong[1]); x != nil || e != api.ErrArg {
			t.Errorf("New%v: %v, %v", wrong, x, e)
		}
	}
}

func TestCrashAndStart(t *testing.T) {
	for _, n := range []int{1, 3, 5, 7} {
		for id := range n {
			x := made(t, id, n)
			if out, e := x.Start(1); out != nil || e != api.ErrState {
				t.Errorf("Start of one that is up: %v, %v", out, e)
			}
			if e := x.Crash(); e != api.OK {
				t.Error(e)
			}
			if e := x.Crash(); e != api.ErrState {
				t.Errorf("Crash of one that is not up: %v", e)
			}
			for _, nonce := range []int{math.MinInt, -1, 0, big + 1, math.MaxInt} {
				if out, e := x.Start(nonce); out != nil || e != api.ErrArg {
					t.Errorf("Start(%d): %v, %v", nonce, out, e)
				}
			}
			stands(t, x, Stand{})
			out, e := x.Start(1) // the one that was refused while it was up counts not as used
			if e != api.OK {
				t.Errorf("Start(1): %v", e)
			}
			sends(t, out, toEach(memo.Memo{Kind: memo.Recover}, x.others()...)...)
			for _, o := range out {
				lives := make([]int, n)
				lives[id] = 1
				if m := open(t, o); !sameInts(m.Lives, lives) {
					t.Errorf("it asks with %v", m.Lives)
				}
			}
			stands(t, x, Stand{Up: true, Status: Recovering})
		}
	}
}

func sameInts(a, b []int) bool {
	if len(a) != len(b) {
		return false
	}
	for i := range a {
		if a[i] != b[i] {
			return false
		}
	}
	return true
}

func TestNoncesRise(t *testing.T) {
	x := made(t, 1, 3)
	x.Crash()
	for _, c := range []struct {
		nonce int
		want  api.Errno
	}{{7, api.OK}, {7, api.ErrArg}, {6, api.ErrArg}, {1, api.ErrArg}, {0, api.ErrArg}, {8, api.OK}, {big + 1, api.ErrArg}, {big, api.OK}, {big, api.ErrArg}, {big + 1, api.ErrArg}} {
		if _, e := x.Start(c.nonce); e != c.want {
			t.Errorf("Start(%d): %v, want %v", c.nonce, e, c.want)
		}
		// Wrong nonces come first, also of one that is up.
		if _, e := x.Start(c.nonce); c.want == api.OK && e != api.ErrArg {
			t.Errorf("Start(%d) once more: %v", c.nonce, e)
		}
		if c.want == api.OK {
			if _, e := x.Start(c.nonce + 1); c.nonce < big && e != api.ErrState {
				t.Errorf("Start of one that is up: %v", e)
			}
			x.Crash()
		}
	}
}

func TestNotUp(t *testing.T) {
	c := newCluster(t, 3)
	c.ask(0, 3, 1, mk("a"))
	c.tick(0, 1)
	for id, x := range c.l {
		x.Crash()
		stands(t, x, Stand{})
		if len(x.Items()) != 0 || !isZero(x.State()) {
			t.Errorf("%d has %v, %v", id, x.Items(), x.State())
		}
		y := made(t, id, 3)
		y.Crash()
		for range 40 {
			if out := x.Tick(); len(out) != 0 {
				t.Errorf("Tick: %v", opened(t, out))
			}
		}
		if out := x.Trim(); len(out) != 0 {
			t.Errorf("Trim: %v", opened(t, out))
		}
		from := (id + 1) % 3
		for kind := memo.Request; kind <= memo.Piece; kind++ {
			for _, text := range []string{said(3, memo.Memo{Kind: kind, View: 5}), request(3, 2, mk("b"))} {
				if out := x.Letter(from, text); len(out) != 0 {
					t.Errorf("kind %d: %v", kind, opened(t, out))
				}
				if out := x.Letter(3, text); len(out) != 0 {
					t.Errorf("kind %d: %v", kind, opened(t, out))
				}
			}
		}
		if !same(x, y) {
			t.Errorf("%d remembers something: %+v", id, x)
		}
	}
}

func TestForgetsAll(t *testing.T) {
	c := newCluster(t, 3)
	for req := range 5 {
		c.ask(0, 3, req+1, mk(string(rune('a'+req))))
	}
	c.tick(0, 1)
	c.l[0].Trim()
	for id, x := range c.l {
		y := started(t, id, 3, 9)
		x.Crash()
		x.Start(9)
		if !same(x, y) {
			t.Errorf("%d remembers something: %+v", id, x)
		}
	}
}

func TestNoMember(t *testing.T) {
	var none *Member
	for _, x := range []*Member{none, {}} { // one that New did not make is as a nil one
		if e := x.Crash(); e != api.ErrState {
			t.Errorf("Crash: %v", e)
		}
		for _, nonce := range []int{math.MinInt, -1, 0, big + 1, math.MaxInt} {
			if out, e := x.Start(nonce); out != nil || e != api.ErrArg {
				t.Errorf("Start(%d): %v, %v", nonce, out, e)
			}
		}
		for _, nonce := range []int{1, 5, big} {
			if out, e := x.Start(nonce); out != nil || e != api.ErrState {
				t.Errorf("Start(%d): %v, %v", nonce, out, e)
			}
		}
		stands(t, x, Stand{})
		if x.Items() != nil || !isZero(x.State()) || x.Tick() != nil || x.Trim() != nil {
			t.Error("a nil member is up")
		}
		for _, from := range []int{-1, 0, 1, 3, 31, 32} {
			if x.Letter(from, request(max(from, 0), 1, mk("a"))) != nil || x.Letter(from, "") != nil {
				t.Error("a nil member reads")
			}
		}
	}
}

// What is told is new memory: what is done to it changes nothing.
func TestNewMemory(t *testing.T) {
	write := body(api.Call{Kind: api.CallWrite, H: api.Handle{No: 1, Gen: 1}, Data: "abc"})
	open := body(api.Call{Kind: api.CallOpen, H: api.Handle{No: 1, Gen: 1}})
	build := func() *Member {
		x := made(t, 0, 1)
		for i, s := range []string{mk("a"), write, open} {
			x.Letter(1, request(1, i+1, s))
		}
		return x
	}
	x, y := build(), build()
	l := x.Items()
	for i := range l[:cap(l)] {
		l[:cap(l)][i] = api.Item{Client: 5}
	}
	s := x.State()
	s.Done = 99
	for i := range s.Inodes {
		z := &s.Inodes[i]
		z.Gen = 99
		for j := range z.Runs[:cap(z.Runs)] {
			z.Runs[:cap(z.Runs)][j] = api.Run{At: 9}
		}
		for j := range z.Entries[:cap(z.Entries)] {
			z.Entries[:cap(z.Entries)][j] = api.Entry{Name: "z"}
		}
	}
	for i := range s.Opens[:cap(s.Opens)] {
		s.Opens[:cap(s.Opens)][i] = api.Open{Fd: 9}
	}
	for i := range s.Seats[:cap(s.Seats)] {
		s.Seats[:cap(s.Seats)][i] = api.Seat{Client: 9}
	}
	if !same(x, y) {
		t.Error("what was told is what is kept")
	}
	if n := len(y.State().Inodes); n != 2 || len(y.State().Opens) != 1 || len(y.State().Seats) != 1 || len(y.State().Inodes[1].Runs) != 1 || len(y.State().Inodes[0].Entries) != 1 {
		t.Errorf("there was nothing to be changed: %v", y.State())
	}
	stands(t, y, Stand{Up: true, Status: Normal, Last: 3, Commit: 3, Applied: 3})
}
