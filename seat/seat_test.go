package seat

import (
	"math"
	"slices"
	"strings"
	"testing"

	"sexton/api"
)

func seat(client, req int, reply string) api.Seat {
	return api.Seat{Client: client, Req: req, Reply: reply}
}

// some are four seats, new each time, with spare room behind.
func some() []api.Seat {
	l := make([]api.Seat, 0, 9)
	return append(l, seat(2, 7, "two"), seat(5, 1, ""), seat(6, 3, "six"), seat(20, api.MaxBig, "twenty"))
}

// of are seats of these clients.
func of(clients ...int) []api.Seat {
	var l []api.Seat
	for _, client := range clients {
		l = append(l, seat(client, 3, "reply"))
	}
	return l
}

// upTo are seats of n clients: 1, 3, 5 and so on.
func upTo(n int) []api.Seat {
	var l []api.Seat
	for i := range n {
		l = append(l, seat(2*i+1, i+1, strings.Repeat("r", i)))
	}
	return l
}

// spoil changes all that can be got at in a list, spare room too.
func spoil(l []api.Seat) {
	for i := range l[:cap(l)] {
		l[:cap(l)][i] = seat(-7, -7, "spoilt")
	}
}

func rightClients() []int { return []int{0, 1, 5, api.MaxBig - 1, api.MaxBig} }

func wrongClients() []int { return []int{math.MinInt, -2, -1, api.MaxBig + 1, math.MaxInt} }

func rightReqs() []int { return []int{1, 2, 3, 7, api.MaxBig - 1, api.MaxBig} }

func wrongReqs() []int { return []int{math.MinInt, -1, 0, api.MaxBig + 1, math.MaxInt} }

func rightReplies() []string { return []string{"", "x", "\x00", strings.Repeat("r", 8192)} }

func wrongReplies() []string {
	return []string{strings.Repeat("r", 8193), strings.Repeat("\x00", 16384)}
}

// rightLists are seats that are right, those at the edges among them.
func rightLists() [][]api.Seat {
	l := [][]api.Seat{
		nil, {}, some(), of(0), of(api.MaxBig), of(0, 1), of(0, api.MaxBig), of(api.MaxBig-1, api.MaxBig),
		of(0, 1, 2, 3, 4, 5), upTo(1), upTo(api.MaxSeats - 1), upTo(api.MaxSeats),
	}
	for _, req := range rightReqs() {
		// Requests need not rise from one client to the next.
		l = append(l, []api.Seat{seat(4, req, "")}, []api.Seat{seat(4, 3, ""), seat(5, req, "")}, []api.Seat{seat(4, req, ""), seat(5, 3, "")})
	}
	for _, reply := range rightReplies() {
		l = append(l, []api.Seat{seat(4, 1, reply), seat(5, 1, reply)})
	}
	return l
}

// wrongLists are seats that are not right, each for one reason.
func wrongLists() [][]api.Seat {
	l := [][]api.Seat{
		upTo(api.MaxSeats + 1), upTo(99), of(0, 0), of(3, 3), of(0, 3, 3, 4), of(0, 3, 4, 4), of(1, 0), of(0, 2, 1), of(2, 0, 1), of(api.MaxBig, api.MaxBig), of(api.MaxBig, 0),
	}
	for _, client := range wrongClients() {
		l = append(l, of(client))
	}
	l = append(l, of(-1, 0), of(0, api.MaxBig+1), of(math.MaxInt, math.MinInt))
	for _, req := range wrongReqs() {
		l = append(l, []api.Seat{seat(4, req, "")}, []api.Seat{seat(4, 3, ""), seat(5, req, "")}, []api.Seat{seat(4, req, ""), seat(5, 3, "")})
	}
	for _, reply := range wrongReplies() {
		l = append(l, []api.Seat{seat(4, 1, reply)}, []api.Seat{seat(4, 1, ""), seat(5, 1, reply)}, []api.Seat{seat(4, 1, reply), seat(5, 1, "")})
	}
	return l
}

func wantAsk(t *testing.T, l []api.Seat, client, req, want int, wantReply string, wantE api.Errno) {
	t.Helper()
	if n, reply, e := Ask(l, client, req); n != want || reply != wantReply || e != wantE {
		t.Errorf("Ask(%.200v, %d, %d): %d, %.20q, %v; want %d, %.20q, %v", l, client, req, n, reply, e, want, wantReply, wantE)
	}
}

func wantPut(t *testing.T, l []api.Seat, client, req int, reply string, want []api.Seat, wantE api.Errno) []api.Seat {
	t.Helper()
	x, e := Put(l, client, req, reply)
	if !slices.Equal(x, want) || e != wantE {
		t.Errorf("Put(%.200v, %d, %d, %.20q): %.200v, %v; want %.200v, %v", l, client, req, reply, x, e, want, wantE)
	}
	return x
}

func wantDrop(t *testing.T, l []api.Seat, client int, want []api.Seat, wantE api.Errno) {
	t.Helper()
	if x, e := Drop(l, client); !slices.Equal(x, want) || e != wantE {
		t.Errorf("Drop(%.200v, %d): %.200v, %v; want %.200v, %v", l, client, x, e, want, wantE)
	}
}

// 16.1

func TestCheck(t *testing.T) {
	for _, l := range rightLists() {
		if e := Check(l); e != api.OK {
			t.Errorf("Check(%.200v): %v", l, e)
		}
	}
	for _, l := range wrongLists() {
		if e := Check(l); e != api.ErrForm {
			t.Errorf("Check(%.200v): %v", l, e)
		}
	}
}

// 16.2

func TestWords(t *testing.T) {
	if got := []int{Fresh, Told, Past, Full}; !slices.Equal(got, []int{1, 2, 3, 4}) {
		t.Errorf("Fresh, Told, Past, Full: %v", got)
	}
}

func TestAskSeated(t *testing.T) {
	for _, l := range rightLists() {
		for _, x := range l {
			wantAsk(t, l, x.Client, x.Req, Told, x.Reply, api.OK)
			for _, req := range append(rightReqs(), x.Req-1, x.Req+1) {
				switch {
				case req < 1 || req > api.MaxBig:
					wantAsk(t, l, x.Client, req, 0, "", api.ErrArg)
				case req < x.Req:
					wantAsk(t, l, x.Client, req, Past, "", api.OK)
				case req > x.Req:
					wantAsk(t, l, x.Client, req, Fresh, "", api.OK)
				}
			}
		}
	}
}

// TestAskNew: of a client without a seat, ahead of all others, between them and behind them.
func TestAskNew(t *testing.T) {
	for n := range api.MaxSeats + 1 {
		want := Fresh
		if n == api.MaxSeats {
			want = Full
		}
		for _, client := range []int{0, 2, 4, 6, 8, 10, 12, api.MaxBig} {
			for _, req := range rightReqs() {
				wantAsk(t, upTo(n), client, req, want, "", api.OK)
			}
		}
	}
}

// 16.3

func TestPutNew(t *testing.T) {
	full := upTo(api.MaxSeats)
	for i, x := range full {
		l := slices.Delete(slices.Clone(full), i, i+1)
		wantPut(t, l, x.Client, x.Req, x.Reply, full, api.OK)
	}
	for _, client := range rightClients() {
		for _, req := range rightReqs() {
			for _, reply := range rightReplies() {
				wantPut(t, nil, client, req, reply, []api.Seat{seat(client, req, reply)}, api.OK)
			}
		}
	}
	for _, client := range []int{0, 2, 4, 6, 8, 10, 12, api.MaxBig} {
		for _, req := range rightReqs() {
			wantPut(t, full, client, req, "x", nil, api.Sessions)
		}
	}
}

func TestPutSeated(t *testing.T) {
	for _, l := range rightLists() {
		for i, x := range l {
			for _, req := range []int{1, x.Req - 1, x.Req} {
				if req > 0 {
					wantPut(t, l, x.Client, req, x.Reply, nil, api.ErrState)
				}
			}
			for _, req := range []int{x.Req + 1, x.Req + 2, api.MaxBig} {
				if req > x.Req && req <= api.MaxBig {
					want := slices.Clone(l)
					want[i] = seat(x.Client, req, "new")
					wantPut(t, l, x.Client, req, "new", want, api.OK)
				}
			}
		}
	}
}

func TestPutLong(t *testing.T) {
	for _, reply := range rightReplies() {
		wantPut(t, of(5), 5, 4, reply, []api.Seat{seat(5, 4, reply)}, api.OK)
	}
	for _, reply := range wrongReplies() {
		wantPut(t, nil, 5, 1, reply, nil, api.ErrLong)
		wantPut(t, of(5), 5, 4, reply, nil, api.ErrLong)
		// Ahead of what Ask tells.
		wantPut(t, of(5), 5, 3, reply, nil, api.ErrLong)
		wantPut(t, of(5), 5, 2, reply, nil, api.ErrLong)
		wantPut(t, upTo(api.MaxSeats), 2, 1, reply, nil, api.ErrLong)
	}
}

func TestDrop(t *testing.T) {
	for _, l := range rightLists() {
		for i, x := range l {
			wantDrop(t, l, x.Client, slices.Delete(slices.Clone(l), i, i+1), api.OK)
		}
	}
	l := some()
	wantDrop(t, l, 2, l[1:], api.OK)
	wantDrop(t, l, 5, []api.Seat{l[0], l[2], l[3]}, api.OK)
	wantDrop(t, l, 20, l[:3], api.OK)
	for _, client := range []int{0, 1, 3, 4, 7, 19, 21, api.MaxBig} {
		wantDrop(t, l, client, nil, api.ErrNone)
		wantDrop(t, nil, client, nil, api.ErrNone)
	}
	wantDrop(t, of(9), 9, nil, api.OK)
	wantDrop(t, upTo(api.MaxSeats), 2, nil, api.ErrNone)
}

// TestOrder: of several faults the one that the chapter names first is told.
func TestOrder(t *testing.T) {
	long := wrongReplies()[0]
	for _, l := range wrongLists() {
		for _, client := range append(rightClients(), wrongClients()...) {
			for _, req := range []int{-1, 0, 1, api.MaxBig + 1} {
				wantAsk(t, l, client, req, 0, "", api.ErrForm)
				wantPut(t, l, client, req, "", nil, api.ErrForm)
				wantPut(t, l, client, req, long, nil, api.ErrForm)
			}
			wantDrop(t, l, client, nil, api.ErrForm)
		}
	}
	for _, l := range rightLists() {
		for _, client := range wrongClients() {
			for _, req := range append(rightReqs(), wrongReqs()...) {
				wantAsk(t, l, client, req, 0, "", api.ErrArg)
				wantPut(t, l, client, req, "", nil, api.ErrArg)
				wantPut(t, l, client, req, long, nil, api.ErrArg)
			}
			wantDrop(t, l, client, nil, api.ErrArg)
		}
		for _, client := range rightClients() {
			for _, req := range wrongReqs() {
				wantAsk(t, l, client, req, 0, "", api.ErrArg)
				wantPut(t, l, client, req, "", nil, api.ErrArg)
				wantPut(t, l, client, req, long, nil, api.ErrArg)
			}
		}
	}
}

func TestExample(t *testing.T) {
	l := wantPut(t, nil, 5, 2, "x", []api.Seat{seat(5, 2, "x")}, api.OK)
	wantAsk(t, l, 5, 2, Told, "x", api.OK)
	wantAsk(t, l, 5, 1, Past, "", api.OK)
	wantAsk(t, l, 5, 3, Fresh, "", api.OK)
	wantPut(t, l, 5, 2, "x", nil, api.ErrState)
}

// TestMemory: what is handed in is neither changed nor kept, and what is told is new.
func TestMemory(t *testing.T) {
	calls := []func(l []api.Seat) []api.Seat{
		func(l []api.Seat) []api.Seat { x, _ := Put(l, 0, 1, "x"); return x },
		func(l []api.Seat) []api.Seat { x, _ := Put(l, 5, 2, "x"); return x },
		func(l []api.Seat) []api.Seat { x, _ := Put(l, 30, 2, "x"); return x },
		func(l []api.Seat) []api.Seat { x, _ := Put(l[:2], 30, 2, "x"); return x },
		func(l []api.Seat) []api.Seat { x, _ := Put(l[:2], 5, 2, "x"); return x },
		func(l []api.Seat) []api.Seat { x, _ := Drop(l, 2); return x },
		func(l []api.Seat) []api.Seat { x, _ := Drop(l, 5); return x },
		func(l []api.Seat) []api.Seat { x, _ := Drop(l, 20); return x },
	}
	for i, call := range calls {
		l := some()
		first := slices.Clone(call(l))
		if len(first) == 0 || !slices.Equal(l[:cap(l)], some()[:cap(l)]) {
			t.Errorf("call %d changes what it is handed: %v", i, l[:cap(l)])
		}
		spoil(call(l))
		if !slices.Equal(l[:cap(l)], some()[:cap(l)]) || !slices.Equal(call(l), first) {
			t.Errorf("call %d: what is told is not new", i)
		}
		again := call(l)
		spoil(l)
		if !slices.Equal(again, first) {
			t.Errorf("call %d keeps what it is handed: %v", i, again)
		}
	}
}

// TestMemoryUnchanged: calls that tell no seats leave those that they are handed as they were.
func TestMemoryUnchanged(t *testing.T) {
	l := some()
	Check(l)
	Ask(l, 5, 1)
	Ask(l, 7, 1)
	Put(l, 5, 1, "x")
	Put(l, 7, 1, wrongReplies()[0])
	Drop(l, 7)
	if !slices.Equal(l[:cap(l)], some()[:cap(l)]) {
		t.Errorf("seats: %v", l[:cap(l)])
	}
}

// 16.4

// model is what was put last for each client that has a seat.
type model map[int]api.Seat

// list are its seats, by their clients.
func (m model) list() []api.Seat {
	var l []api.Seat
	for client := range 10 {
		if x, ok := m[client]; ok {
			l = append(l, x)
		}
	}
	return l
}

// ask is what a request should be, and what should be told.
func (m model) ask(client, req int) (int, string) {
	last, seated := m[client]
	switch {
	case seated && req == last.Req:
		return Told, last.Reply
	case seated && req < last.Req:
		return Past, ""
	case !seated && len(m) == api.MaxSeats:
		return Full, ""
	}
	return Fresh, ""
}

// step puts or drops something of a list and its model.
func (m model) step(t *testing.T, l []api.Seat, x int) []api.Seat {
	client, req, reply := x%10, x/10%12+1, strings.Repeat("r", x/120%5)
	if x/600%9 == 0 {
		if _, seated := m[client]; !seated {
			wantDrop(t, l, client, nil, api.ErrNone)
			return l
		}
		delete(m, client)
		wantDrop(t, l, client, m.list(), api.OK)
		return m.list()
	}
	n, told := m.ask(client, req)
	wantAsk(t, l, client, req, n, told, api.OK)
	switch n {
	case Full:
		wantPut(t, l, client, req, reply, nil, api.Sessions)
		return l
	case Told, Past:
		wantPut(t, l, client, req, reply, nil, api.ErrState)
		return l
	}
	m[client] = seat(client, req, reply)
	l = wantPut(t, l, client, req, reply, m.list(), api.OK)
	// Put once, it is told, and not put again.
	wantAsk(t, l, client, req, Told, reply, api.OK)
	wantPut(t, l, client, req, reply, nil, api.ErrState)
	return l
}

func TestModel(t *testing.T) {
	m := model{}
	var l []api.Seat
	x, full := 1, 0
	for range 20000 {
		x = x * 48271 % (1<<31 - 1)
		l = m.step(t, l, x>>4)
		if Check(l) != api.OK || t.Failed() {
			t.Fatalf("seats: %v", l)
		}
		for client := range 10 {
			for req := range 14 {
				if req > 0 {
					n, told := m.ask(client, req)
					wantAsk(t, l, client, req, n, told, api.OK)
				}
			}
		}
		if len(l) == api.MaxSeats {
			full++
		}
	}
	if full < 100 {
		t.Errorf("all seats were taken only %d times", full)
	}
}

// TestRising: whatever is asked for, a client's requests are put in rising order, each once.
func TestRising(t *testing.T) {
	var l []api.Seat
	var put []int
	for _, req := range []int{3, 3, 1, 2, 4, 4, 9, 5, 8, 10, 10, api.MaxBig, 1, api.MaxBig} {
		x, e := Put(l, 7, req, "x")
		if e == api.OK {
			put = append(put, req)
			l = x
		}
	}
	if !slices.Equal(put, []int{3, 4, 9, 10, api.MaxBig}) {
		t.Errorf("put: %v", put)
	}
}

// TestTotal: every call ends, none panics (P1).
func TestTotal(t *testing.T) {
	odd := []int{math.MinInt, -1, 0, 1, 5, 6, 7, api.MaxBig, api.MaxBig + 1, math.MaxInt}
	for _, l := range append(rightLists(), wrongLists()...) {
		right := Check(l) == api.OK
		for _, a := range odd {
			for _, b := range odd {
				for _, reply := range []string{"", wrongReplies()[0]} {
					n, told, e := Ask(l, a, b)
					x, f := Put(l, a, b, reply)
					y, g := Drop(l, a)
					for i, e := range []api.Errno{e, f, g} {
						if right == (e == api.ErrForm) {
							t.Fatalf("call %d of %.200v: %v", i, l, e)
						}
					}
					if Check(x) != api.OK || Check(y) != api.OK || (e != api.OK) != (n == 0) || n != Told && told != "" {
						t.Fatalf("%.200v, %d, %d: %d, %.20q, %.200v, %.200v", l, a, b, n, told, x, y)
					}
				}
			}
		}
	}
}
