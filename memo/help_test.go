package memo

import (
	"math"
	"reflect"
	"slices"
	"strings"
	"testing"

	"sexton/api"
	"sexton/shard"
)

// chance is numbers that look like chance, and are the same each time.
type chance uint64

func (x *chance) word() uint32 {
	*x = *x*6364136223846793005 + 1442695040888963407
	return uint32(*x >> 32)
}

func (x *chance) below(n int) int { return int(x.word() % uint32(n)) }

func (x *chance) text(n int) string {
	b := make([]byte, n)
	for i := range b {
		b[i] = byte(x.word())
	}
	return string(b)
}

// number is a number up to MaxBig, often one at an end of its range.
func (x *chance) number() int {
	switch x.below(4) {
	case 0:
		return 0
	case 1:
		return api.MaxBig
	case 2:
		return x.below(300)
	}
	return int(x.word())<<7 | int(x.word()&127)
}

// memo is a right memo.
func (x *chance) memo() Memo {
	m := Memo{Kind: 1 + x.below(12)}
	for _, n := range []*int{&m.View, &m.Normal, &m.Op, &m.Commit, &m.Base, &m.Low, &m.Client} {
		*n = x.number()
	}
	for range []int{0, 1, 3, 5, 7}[x.below(5)] {
		m.Lives = append(m.Lives, x.number())
	}
	for range x.below(4) {
		m.Items = append(m.Items, api.Item{View: x.number(), Client: x.number(), Req: max(1, x.number()), Body: x.text(x.below(20))})
	}
	if x.below(2) == 0 {
		m.Man = shard.Manifest{Op: x.number(), Size: 1 + x.below(65535), Sum: int(x.word())}
	}
	if x.below(2) == 0 {
		m.Number = x.below(65536)
	}
	if x.below(2) == 0 {
		m.Data = x.text(x.below(40))
	}
	return m
}

// burst is bytes of which a burst of up to 32 bits was turned, the first and the last one of it for sure.
func (x *chance) burst(s string, size int) string {
	bits := x.word()&(1<<size-1) | 1 | 1<<(size-1)
	return turn(s, x.below(8*len(s)-size+1), bits)
}

// turn turns the bits of a burst, from bit at on, each byte's lowest first.
func turn(s string, at int, bits uint32) string {
	b := []byte(s)
	for i := range 32 {
		if bits>>i&1 == 1 {
			b[(at+i)/8] ^= 1 << ((at + i) % 8)
		}
	}
	return string(b)
}

// spare is what marks the spare room of lists that are handed in.
const spare = -77

// roomy is a memo like m whose lists lie in memory of their own, with spare room that is marked.
func roomy(m Memo) Memo {
	n, k := len(m.Lives), len(m.Items)
	m.Lives = append(slices.Clone(m.Lives), spare, spare)[:n]
	m.Items = append(slices.Clone(m.Items), api.Item{View: spare}, api.Item{View: spare})[:k]
	return m
}

// touched tells whether a memo that roomy made is no longer like was, or its spare room is no longer marked.
func touched(m, was Memo) bool {
	x, y := m.Lives[len(m.Lives):cap(m.Lives)], m.Items[len(m.Items):cap(m.Items)]
	return !same(m, was) || x[0] != spare || x[1] != spare || y[0] != api.Item{View: spare} || y[1] != api.Item{View: spare}
}

// same tells whether two memos are the same; a list of nothing may be nil or empty.
func same(a, b Memo) bool {
	if !slices.Equal(a.Lives, b.Lives) || !slices.Equal(a.Items, b.Items) {
		return false
	}
	a.Lives, a.Items, b.Lives, b.Items = nil, nil, nil, nil
	return reflect.DeepEqual(a, b)
}

// wantRight holds what is told of a right memo against its bytes; and its bytes, unpacked, against it.
func wantRight(t *testing.T, m Memo) {
	t.Helper()
	x, want := roomy(m), packed(m)
	if e := Check(x); e != api.OK {
		t.Errorf("Check(%.200v): %v", m, e)
	}
	if s, e := Pack(x); s != want || e != api.OK {
		t.Errorf("Pack(%.200v): %.200q of %d bytes, %v; want %.200q of %d", m, s, len(s), e, want, len(want))
	}
	if touched(x, m) {
		t.Errorf("what was handed in became %.200v; it was %.200v", x, m)
	}
	if y, e := Unpack(want); !same(y, m) || e != api.OK {
		t.Errorf("Unpack(%.200q): %.200v, %v; want %.200v", want, y, e, m)
	}
}

// wantWrong holds what is told of a memo that is not right.
func wantWrong(t *testing.T, m Memo) {
	t.Helper()
	x := roomy(m)
	if e := Check(x); e != api.ErrForm {
		t.Errorf("Check(%.200v): %v", m, e)
	}
	if s, e := Pack(x); s != "" || e != api.ErrForm {
		t.Errorf("Pack(%.200v): %.200q, %v", m, s, e)
	}
	if touched(x, m) {
		t.Errorf("what was handed in became %.200v; it was %.200v", x, m)
	}
}

// wantLong holds what is told of a memo that is right, and too long.
func wantLong(t *testing.T, m Memo) {
	t.Helper()
	if e := Check(m); e != api.OK {
		t.Errorf("Check(%.200v): %v", m, e)
	}
	if s, e := Pack(m); s != "" || e != api.ErrLong {
		t.Errorf("Pack(%.200v): %d bytes, %v", m, len(s), e)
	}
	fails(t, packed(m), api.ErrLong)
}

// fails holds bytes against being no memo's.
func fails(t *testing.T, s string, want api.Errno) {
	t.Helper()
	if m, e := Unpack(s); e != want || !reflect.DeepEqual(m, Memo{}) {
		t.Errorf("Unpack(%.200q of %d bytes): %.200v, %v; want %v", s, len(s), m, e, want)
	}
}

func refused(t *testing.T, s string) {
	t.Helper()
	fails(t, s, api.ErrForm)
}

// held holds what bytes are against what the chapter's words have of them, and tells whether they are a memo's.
func held(t *testing.T, s string) bool {
	t.Helper()
	m, ok := parse(s)
	if ok {
		wantRight(t, m)
	} else {
		refused(t, s)
	}
	return ok
}

// full is a memo of which no field is left out, new each time.
func full() Memo {
	return Memo{
		Kind: Inform, View: 1, Normal: 2, Op: 3, Commit: 4, Base: 5, Low: 6, Client: 7,
		Lives:  []int{0, 9, 0},
		Items:  []api.Item{{View: 1, Client: 2, Req: 3, Body: "x"}, {View: 0, Client: 0, Req: 1}},
		Man:    shard.Manifest{Op: 5, Size: 300, Sum: 7},
		Number: 8,
		Data:   "d",
	}
}

// great is a memo whose numbers are as great as they may be.
func great() Memo {
	const big = api.MaxBig
	return Memo{
		Kind: Piece, View: big, Normal: big, Op: big, Commit: big, Base: big, Low: big, Client: big,
		Lives:  []int{big, big, big, big, big, big, big},
		Items:  []api.Item{{View: big, Client: big, Req: big, Body: strings.Repeat("\xff", 4096)}},
		Man:    shard.Manifest{Op: big, Size: 65535, Sum: 1<<32 - 1},
		Number: 65535,
		Data:   strings.Repeat("\xff", 8192),
	}
}

// changed is a memo of its own like m that was changed by f.
func changed(m Memo, f func(*Memo)) Memo {
	m.Lives, m.Items = slices.Clone(m.Lives), slices.Clone(m.Items)
	f(&m)
	return m
}

// bigFields are a memo's numbers that are up to MaxBig, one of its lives, and of an item and a manifest, of a memo like full.
func bigFields() []func(*Memo) *int {
	return []func(*Memo) *int{
		func(m *Memo) *int { return &m.View }, func(m *Memo) *int { return &m.Normal }, func(m *Memo) *int { return &m.Op }, func(m *Memo) *int { return &m.Commit },
		func(m *Memo) *int { return &m.Base }, func(m *Memo) *int { return &m.Low }, func(m *Memo) *int { return &m.Client },
		func(m *Memo) *int { return &m.Lives[0] }, func(m *Memo) *int { return &m.Lives[2] },
		func(m *Memo) *int { return &m.Items[0].View }, func(m *Memo) *int { return &m.Items[1].View }, func(m *Memo) *int { return &m.Items[0].Client }, func(m *Memo) *int { return &m.Items[1].Client },
		func(m *Memo) *int { return &m.Man.Op },
	}
}

// outside are numbers that are not from 0 to MaxBig.
var outside = []int{math.MinInt, -1 << 48, -1 << 40, -2, -1, api.MaxBig + 1, api.MaxBig + 2, 1 << 41, 1<<48 - 1, 1 << 48, 1<<48 + 1, math.MaxInt}

// someItems are n right items with bodies of size bytes.
func someItems(n, size int) []api.Item {
	var l []api.Item
	for i := range n {
		l = append(l, api.Item{View: n - i, Client: i, Req: i + 1, Body: strings.Repeat(string(rune('a'+i%26)), size)})
	}
	return l
}

// ofSize is a right memo of n bytes, for n from 58000 to 61000.
func ofSize(n int) Memo {
	m := Memo{Kind: Start, Items: someItems(14, 4096)}
	m.Items = append(m.Items, api.Item{Req: 1, Body: strings.Repeat("z", n-8-14*4117-21)})
	return m
}
