package opens

import (
	"math"
	"slices"
	"testing"

	"sexton/api"
)

func at(no, gen int) api.Handle { return api.Handle{No: no, Gen: gen} }

func open(fd, client int, h api.Handle) api.Open { return api.Open{Fd: fd, Client: client, Of: h} }

// some are five open files of three clients, new each time, with spare room behind.
func some() []api.Open {
	l := make([]api.Open, 0, 20)
	return append(l, open(0, 5, at(1, 1)), open(1, 7, at(1, 1)), open(3, 5, at(2, 4)), open(4, 0, at(1, 2)), open(9, 5, at(1, 1)))
}

// numbered are open files of one client, with these numbers.
func numbered(fds ...int) []api.Open {
	var l []api.Open
	for _, fd := range fds {
		l = append(l, open(fd, 3, at(1, 1)))
	}
	return l
}

// upTo are open files with the numbers below n.
func upTo(n int) []api.Open {
	var l []api.Open
	for fd := range n {
		l = append(l, open(fd, fd%3, at(fd, fd+1)))
	}
	return l
}

// spoil changes all that can be got at in a list, spare room too.
func spoil[E any](l []E, x E) {
	for i := range l[:cap(l)] {
		l[:cap(l)][i] = x
	}
}

var spoilt = open(-7, -7, at(-7, -7))

func rightClients() []int { return []int{0, 1, 5, api.MaxBig - 1, api.MaxBig} }

func wrongClients() []int { return []int{math.MinInt, -2, -1, api.MaxBig + 1, math.MaxInt} }

func rightOfs() []api.Handle {
	return []api.Handle{at(0, 1), at(1, 2), at(api.MaxInodes-1, 1), at(0, api.MaxBig), at(api.MaxInodes-1, api.MaxBig)}
}

func wrongOfs() []api.Handle {
	return []api.Handle{
		{}, at(-1, 1), at(math.MinInt, 1), at(api.MaxInodes, 1), at(math.MaxInt, 1),
		at(0, 0), at(0, -1), at(0, math.MinInt), at(0, api.MaxBig+1), at(0, math.MaxInt), at(-1, 0),
	}
}

// rightLists are open files that are right, those at the edges among them.
func rightLists() [][]api.Open {
	l := [][]api.Open{
		nil, {}, some(), numbered(0), numbered(1), numbered(api.MaxOpens - 1), numbered(0, api.MaxOpens-1),
		numbered(api.MaxOpens-2, api.MaxOpens-1), numbered(2, 3, 5, 8), upTo(api.MaxOpens - 1), upTo(api.MaxOpens),
	}
	for _, client := range rightClients() {
		l = append(l, []api.Open{open(0, client, at(1, 1)), open(1, client, at(1, 1))})
	}
	for _, h := range rightOfs() {
		l = append(l, []api.Open{open(0, 1, h), open(1, 1, h)})
	}
	return l
}

// wrongLists are open files that are not right, each for one reason.
func wrongLists() [][]api.Open {
	l := [][]api.Open{
		numbered(-1), numbered(-1, 0), numbered(math.MinInt), numbered(api.MaxOpens), numbered(0, api.MaxOpens), numbered(math.MaxInt), numbered(math.MaxInt, math.MinInt),
		numbered(0, 0), numbered(3, 3), numbered(0, 3, 3, 4), numbered(1, 0), numbered(0, 2, 1), numbered(api.MaxOpens-1, 0), numbered(api.MaxOpens-1, api.MaxOpens-1),
		upTo(api.MaxOpens + 1), append(upTo(api.MaxOpens), numbered(api.MaxOpens-1)...), upTo(300),
	}
	for _, client := range wrongClients() {
		l = append(l, []api.Open{open(0, client, at(1, 1))}, append(upTo(3), open(3, client, at(1, 1))), append([]api.Open{open(0, client, at(1, 1))}, numbered(1)...))
	}
	for _, h := range wrongOfs() {
		l = append(l, []api.Open{open(0, 1, h)}, append(upTo(3), open(3, 1, h)), append([]api.Open{open(0, 1, h)}, numbered(1)...))
	}
	return l
}

func wantOpen(t *testing.T, l []api.Open, client int, h api.Handle, want []api.Open, wantFd int, wantE api.Errno) []api.Open {
	t.Helper()
	x, fd, e := Open(l, client, h)
	if !slices.Equal(x, want) || fd != wantFd || e != wantE {
		t.Errorf("Open(%v, %d, %v): %v, %d, %v; want %v, %d, %v", l, client, h, x, fd, e, want, wantFd, wantE)
	}
	return x
}

func wantClose(t *testing.T, l []api.Open, client, fd int, want []api.Open, wantH api.Handle, wantE api.Errno) []api.Open {
	t.Helper()
	x, h, e := Close(l, client, fd)
	if !slices.Equal(x, want) || h != wantH || e != wantE {
		t.Errorf("Close(%v, %d, %d): %v, %v, %v; want %v, %v, %v", l, client, fd, x, h, e, want, wantH, wantE)
	}
	return x
}

func wantLeave(t *testing.T, l []api.Open, client int, want []api.Open, wantOf []api.Handle, wantE api.Errno) {
	t.Helper()
	x, of, e := Leave(l, client)
	if !slices.Equal(x, want) || !slices.Equal(of, wantOf) || e != wantE {
		t.Errorf("Leave(%v, %d): %v, %v, %v; want %v, %v, %v", l, client, x, of, e, want, wantOf, wantE)
	}
}

// 12.1

func TestCheck(t *testing.T) {
	for _, l := range rightLists() {
		if e := Check(l); e != api.OK {
			t.Errorf("Check(%v): %v", l, e)
		}
	}
	for _, l := range wrongLists() {
		if e := Check(l); e != api.ErrForm {
			t.Errorf("Check(%v): %v", l, e)
		}
	}
}

func TestHeld(t *testing.T) {
	odd := []api.Open{open(-1, -1, at(-1, 0)), open(99, 1, at(-1, 0)), open(99, 1, at(-1, 1))}
	for _, c := range []struct {
		l    []api.Open
		h    api.Handle
		want int
	}{
		{nil, at(1, 1), 0}, {nil, api.Handle{}, 0},
		{some(), at(1, 1), 3}, {some(), at(1, 2), 1}, {some(), at(2, 4), 1},
		{some(), at(2, 1), 0}, {some(), at(4, 2), 0}, {some(), at(1, 3), 0}, {some(), api.Handle{}, 0},
		// Of any list, right or not.
		{odd, at(-1, 0), 2}, {odd, at(-1, 1), 1}, {odd, at(0, 0), 0}, {numbered(2, 2, 1), at(1, 1), 3}, {make([]api.Open, 40), api.Handle{}, 40},
	} {
		if n := Held(c.l, c.h); n != c.want {
			t.Errorf("Held(%v, %v): %d; want %d", c.l, c.h, n, c.want)
		}
	}
}

func TestOf(t *testing.T) {
	odd := []api.Open{open(9, -1, at(0, 0)), open(-4, -1, at(1, 1)), open(3, 2, at(1, 1)), open(9, -1, at(0, 0))}
	for _, c := range []struct {
		l      []api.Open
		client int
		want   []int
	}{
		{nil, 0, nil}, {some(), 5, []int{0, 3, 9}}, {some(), 7, []int{1}}, {some(), 0, []int{4}}, {some(), 1, nil}, {some(), -1, nil}, {some(), math.MaxInt, nil},
		// Of any list, right or not, in the list's order.
		{odd, -1, []int{9, -4, 9}}, {odd, 2, []int{3}}, {numbered(5, 2, 2), 3, []int{5, 2, 2}},
	} {
		if got := Of(c.l, c.client); !slices.Equal(got, c.want) {
			t.Errorf("Of(%v, %d): %v; want %v", c.l, c.client, got, c.want)
		}
	}
}

// 12.2

func TestOpen(t *testing.T) {
	for _, client := range rightClients() {
		for _, h := range rightOfs() {
			wantOpen(t, nil, client, h, []api.Open{open(0, client, h)}, 0, api.OK)
		}
	}
	for _, c := range []struct {
		fds  []int
		want int
	}{
		{[]int{1}, 0}, {[]int{1, 2, 3}, 0}, {[]int{api.MaxOpens - 1}, 0}, {[]int{4, 9}, 0},
		{[]int{0, 2}, 1}, {[]int{0, 1, 2, 4, 6}, 3}, {[]int{0, 1, 5}, 2}, {[]int{0, api.MaxOpens - 1}, 1},
		{[]int{0}, 1}, {[]int{0, 1, 2}, 3},
	} {
		l := numbered(c.fds...)
		x := open(c.want, 8, at(5, 5))
		wantOpen(t, l, 8, at(5, 5), slices.Concat(l[:c.want], []api.Open{x}, l[c.want:]), c.want, api.OK)
	}
}

func TestOpenFull(t *testing.T) {
	full := upTo(api.MaxOpens)
	for i, x := range full {
		l := slices.Delete(slices.Clone(full), i, i+1)
		wantOpen(t, l, x.Client, x.Of, full, i, api.OK)
	}
	for _, client := range rightClients() {
		for _, h := range rightOfs() {
			wantOpen(t, full, client, h, nil, 0, api.NoRoom)
		}
	}
}

func TestClose(t *testing.T) {
	for _, l := range rightLists() {
		for i, x := range l {
			wantClose(t, l, x.Client, x.Fd, slices.Delete(slices.Clone(l), i, i+1), x.Of, api.OK)
			for _, client := range rightClients() {
				if client != x.Client {
					wantClose(t, l, client, x.Fd, nil, api.Handle{}, api.NotOpen)
				}
			}
		}
		for _, fd := range []int{math.MinInt, -1, api.MaxOpens, api.MaxOpens + 1, math.MaxInt} {
			wantClose(t, l, 5, fd, nil, api.Handle{}, api.NotOpen)
		}
	}
	for _, fd := range []int{1, 2, 4, 5, 8, 10, api.MaxOpens - 1} {
		wantClose(t, some(), 5, fd, nil, api.Handle{}, api.NotOpen)
	}
}

func TestLeave(t *testing.T) {
	l := some()
	wantLeave(t, l, 5, []api.Open{l[1], l[3]}, []api.Handle{at(1, 1), at(2, 4), at(1, 1)}, api.OK)
	wantLeave(t, l, 7, []api.Open{l[0], l[2], l[3], l[4]}, []api.Handle{at(1, 1)}, api.OK)
	wantLeave(t, l, 0, []api.Open{l[0], l[1], l[2], l[4]}, []api.Handle{at(1, 2)}, api.OK)
	for _, client := range []int{1, 3, api.MaxBig} {
		wantLeave(t, l, client, l, nil, api.OK)
		wantLeave(t, nil, client, nil, nil, api.OK)
	}
	wantLeave(t, numbered(2, 5), 3, nil, []api.Handle{at(1, 1), at(1, 1)}, api.OK)
	big := []api.Open{open(0, api.MaxBig, at(2, 2)), open(1, 0, at(1, 1))}
	wantLeave(t, big, api.MaxBig, big[1:], []api.Handle{at(2, 2)}, api.OK)
}

// TestOrder: of several faults the one that the chapter names first is told.
func TestOrder(t *testing.T) {
	for _, l := range wrongLists() {
		for _, client := range append(rightClients(), wrongClients()...) {
			wantOpen(t, l, client, at(1, 1), nil, 0, api.ErrForm)
			wantOpen(t, l, client, at(-1, 0), nil, 0, api.ErrForm)
			wantClose(t, l, client, 0, nil, api.Handle{}, api.ErrForm)
			wantClose(t, l, client, -1, nil, api.Handle{}, api.ErrForm)
			wantLeave(t, l, client, nil, nil, api.ErrForm)
		}
	}
	for _, l := range rightLists() {
		for _, client := range wrongClients() {
			wantOpen(t, l, client, at(1, 1), nil, 0, api.ErrArg)
			wantOpen(t, l, client, at(-1, 0), nil, 0, api.ErrArg)
			wantClose(t, l, client, 0, nil, api.Handle{}, api.ErrArg)
			wantClose(t, l, client, -1, nil, api.Handle{}, api.ErrArg)
			wantLeave(t, l, client, nil, nil, api.ErrArg)
		}
		for _, h := range wrongOfs() {
			wantOpen(t, l, 1, h, nil, 0, api.ErrArg)
		}
	}
}

func TestExample(t *testing.T) {
	five, seven := open(0, 5, at(1, 1)), open(1, 7, at(1, 1))
	l := wantOpen(t, nil, 5, at(1, 1), []api.Open{five}, 0, api.OK)
	l = wantOpen(t, l, 7, at(1, 1), []api.Open{five, seven}, 1, api.OK)
	wantClose(t, l, 5, 1, nil, api.Handle{}, api.NotOpen)
	l = wantClose(t, l, 5, 0, []api.Open{seven}, at(1, 1), api.OK)
	wantOpen(t, l, 5, at(1, 1), []api.Open{five, seven}, 0, api.OK)
}

// TestMemory: what is handed in is neither changed nor kept, and what is told is new.
func TestMemory(t *testing.T) {
	calls := []func(l []api.Open) []api.Open{
		func(l []api.Open) []api.Open { x, _, _ := Open(l, 5, at(1, 1)); return x },
		func(l []api.Open) []api.Open { x, _, _ := Open(l[:2], 5, at(1, 1)); return x },
		func(l []api.Open) []api.Open { x, _, _ := Close(l, 5, 0); return x },
		func(l []api.Open) []api.Open { x, _, _ := Close(l, 5, 9); return x },
		func(l []api.Open) []api.Open { x, _, _ := Leave(l, 5); return x },
		func(l []api.Open) []api.Open { x, _, _ := Leave(l, 1); return x },
	}
	for i, call := range calls {
		l := some()
		first := call(l)
		if len(first) == 0 || !slices.Equal(l[:cap(l)], some()[:cap(l)]) {
			t.Errorf("call %d changes what it is handed: %v", i, l[:cap(l)])
		}
		kept := slices.Clone(first)
		spoil(first, spoilt)
		if !slices.Equal(l[:cap(l)], some()[:cap(l)]) || !slices.Equal(call(l), kept) {
			t.Errorf("call %d: what is told is not new", i)
		}
		again := call(l)
		spoil(l, spoilt)
		if !slices.Equal(again, kept) {
			t.Errorf("call %d keeps what it is handed: %v", i, again)
		}
	}
}

// TestNewNumbers: the lists of numbers and of handles are new too.
func TestNewNumbers(t *testing.T) {
	l := some()
	_, of, _ := Leave(l, 5)
	spoil(of, at(-7, -7))
	spoil(Of(l, 5), -7)
	wantLeave(t, l, 5, []api.Open{l[1], l[3]}, []api.Handle{at(1, 1), at(2, 4), at(1, 1)}, api.OK)
	if fds := Of(l, 5); !slices.Equal(fds, []int{0, 3, 9}) || !slices.Equal(l, some()) {
		t.Errorf("Of: %v, of %v", fds, l)
	}
}

// 12.3

func TestOpenedAndClosed(t *testing.T) {
	for _, l := range rightLists() {
		if len(l) == api.MaxOpens {
			continue
		}
		for _, client := range rightClients() {
			m, fd, e := Open(l, client, at(1, 1))
			if e != api.OK || slices.ContainsFunc(l, func(x api.Open) bool { return x.Fd == fd }) {
				t.Errorf("Open(%v): %d, %v", l, fd, e)
			}
			wantClose(t, m, client, fd, l, at(1, 1), api.OK)
		}
	}
}

// model is what should be open, by numbers.
type model map[int]api.Open

// free is the least number that is not open; MaxOpens, if all are.
func (m model) free() int {
	fd := 0
	for m[fd] != (api.Open{}) {
		fd++
	}
	return fd
}

// list is what is open, in its order.
func (m model) list() []api.Open {
	var l []api.Open
	for fd := range api.MaxOpens {
		if x := m[fd]; x != (api.Open{}) {
			l = append(l, x)
		}
	}
	return l
}

// step does one thing to a list and its model.
func (m model) step(t *testing.T, l []api.Open, x int) []api.Open {
	client, h, fd := x/11%4+1, at(x/50%3, x/150%2+1), x/13%(api.MaxOpens+2)-1
	switch x % 11 {
	case 0:
		var of []api.Handle
		for _, y := range m.list() {
			if y.Client == client {
				of = append(of, y.Of)
				delete(m, y.Fd)
			}
		}
		wantLeave(t, l, client, m.list(), of, api.OK)
		return m.list()
	case 1, 2, 3, 4, 5:
		y := m[fd]
		if y.Client != client {
			wantClose(t, l, client, fd, nil, api.Handle{}, api.NotOpen)
			return l
		}
		delete(m, fd)
		return wantClose(t, l, client, fd, m.list(), y.Of, api.OK)
	}
	fd = m.free()
	if fd == api.MaxOpens {
		wantOpen(t, l, client, h, nil, 0, api.NoRoom)
		return l
	}
	m[fd] = open(fd, client, h)
	return wantOpen(t, l, client, h, m.list(), fd, api.OK)
}

func TestModel(t *testing.T) {
	m := model{}
	var l []api.Open
	x, full := 1, 0
	for range 20000 {
		x = x * 48271 % (1<<31 - 1)
		l = m.step(t, l, x>>4)
		if Check(l) != api.OK || t.Failed() {
			t.Fatalf("open files: %v", l)
		}
		for client := range 6 {
			for _, fd := range Of(l, client) {
				if m[fd].Client != client {
					t.Fatalf("Of(%v, %d): %d", l, client, fd)
				}
			}
		}
		if len(l) == api.MaxOpens {
			full++
		}
	}
	if full < 100 {
		t.Errorf("all numbers were open only %d times", full)
	}
}

// TestTotal: every call ends, none panics (P1).
func TestTotal(t *testing.T) {
	odd := []int{math.MinInt, -1, 0, 1, 5, 15, 16, 23, 24, api.MaxBig, api.MaxBig + 1, math.MaxInt}
	for _, l := range append(rightLists(), wrongLists()...) {
		right := Check(l) == api.OK
		for _, a := range odd {
			for _, b := range odd {
				x, _, e := Open(l, a, at(b, 1))
				y, _, f := Close(l, a, b)
				z, _, g := Leave(l, a)
				for i, e := range []api.Errno{e, f, g} {
					if right == (e == api.ErrForm) {
						t.Fatalf("call %d of %v: %v", i, l, e)
					}
				}
				for i, m := range [][]api.Open{x, y, z} {
					if Check(m) != api.OK {
						t.Fatalf("call %d of %v: %v", i, l, m)
					}
				}
				if Held(l, at(a, b)) > len(l) || len(Of(l, a)) > len(l) {
					t.Fatalf("Held, Of: %v", l)
				}
			}
		}
	}
}
