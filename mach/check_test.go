package mach

import (
	"math"
	"strings"
	"testing"

	"sexton/answer"
	"sexton/api"
	"sexton/nfs"
	"sexton/seat"
)

// rightReplies are bytes that are replies.
func rightReplies() []string {
	var page []api.Entry
	for i := range 64 {
		page = append(page, api.Entry{Name: strings.Repeat("n", i%32+1), Cookie: i + 1, To: at(i%24, 1)})
	}
	return []string{
		isOK, isStale, isState, isFull, isBadCall, isNumber3,
		reply(api.Reply{E: 65535}), reply(api.Reply{H: at(3, 4), Attr: api.Attr{Kind: api.KindFile, Links: 1, Size: 7, Stamp: 8}}),
		reply(api.Reply{Data: strings.Repeat("d", api.MaxWrite)}), reply(api.Reply{Entries: page}), reply(api.Reply{N: api.MaxBig}),
	}
}

// noReplies are bytes that are no reply's.
func noReplies() []string {
	return []string{
		"x", "\x00", isStale[1:], isStale[:4], isStale + "x", isStale + isStale, isNumber3 + isStale,
		"\x01\x00\x02\x00\x00", "\x04\x00\x00", "\x07\x00\x01x", "\x01\x00\x01\x07", "\x06\x00\x06\x01\x00\x00\x00\x00\x01",
		"\x04\x02\x01" + strings.Repeat("d", 513), strings.Repeat("x", 8192),
	}
}

// wholeStates are states that are whole, those at the edges among them.
func wholeStates() []api.State {
	l := []api.State{New(), changed(New(), done(api.MaxBig)), some(), changed(some(), seats()), changed(some(), done(api.MaxBig)), {Inodes: New().Inodes, Opens: []api.Open{}, Seats: []api.Seat{}}}
	for n := range api.MaxSeats + 1 {
		l = append(l, seated(n))
	}
	for _, r := range rightReplies() {
		l = append(l, changed(New(), seats(seatOf(0, 1, r))), changed(some(), seats(seatOf(1, 1, isOK), seatOf(2, 5, r), seatOf(api.MaxBig, api.MaxBig, isStale))))
	}
	return l
}

// notRight are states that are whole but for what chapter 15 asks for.
func notRight() []api.State {
	top := func(f func(*api.Inode)) func(*api.State) {
		return func(s *api.State) { f(&s.Inodes[0]) }
	}
	return []api.State{
		{}, {Done: 3}, changed(some(), func(s *api.State) { s.Inodes = nil }),
		changed(some(), done(-1)), changed(some(), done(api.MaxBig+1)), changed(some(), done(math.MinInt)), changed(some(), done(math.MaxInt)), changed(some(), done(0)),
		changed(some(), top(func(x *api.Inode) { x.Gen = 0 })), changed(some(), top(func(x *api.Inode) { x.Attr.Size++ })),
		changed(some(), top(func(x *api.Inode) { x.Attr.Stamp = someDone + 1 })), changed(some(), top(func(x *api.Inode) { x.Entries[0].To = at(7, 1) })),
		changed(some(), top(func(x *api.Inode) { x.Next = 0 })), changed(some(), top(func(x *api.Inode) { x.Entries[0].Name = "." })),
		// A file without a name is held by none; an open file is of a folder, of nothing, in another's place.
		changed(some(), func(s *api.State) { s.Opens = s.Opens[1:] }), changed(some(), func(s *api.State) { s.Opens[1].Of = root }),
		changed(some(), func(s *api.State) { s.Opens[1].Of = at(2, 2) }), changed(some(), func(s *api.State) { s.Opens[1].Fd = 0 }), changed(some(), func(s *api.State) { s.Opens[1].Client = -1 }),
		// Too many bytes.
		changed(some(), func(s *api.State) {
			x := &s.Inodes[fileB.No]
			x.Attr.Size, x.Runs = 9000, []api.Run{{At: 0, Data: strings.Repeat("b", api.MaxBytes+1)}}
		}),
	}
}

// wrongSeats are states that are right but for their seats.
func wrongSeats() []api.State {
	l := []api.State{changed(seated(6), func(s *api.State) { s.Seats = append(s.Seats, seatOf(99, 1, isOK)) })}
	for _, x := range [][]api.Seat{
		{seatOf(-1, 1, isOK)}, {seatOf(api.MaxBig+1, 1, isOK)}, {seatOf(math.MinInt, 1, isOK)}, {seatOf(math.MaxInt, 1, isOK)},
		{seatOf(0, 0, isOK)}, {seatOf(0, -1, isOK)}, {seatOf(0, api.MaxBig+1, isOK)}, {seatOf(0, math.MinInt, isOK)}, {seatOf(0, math.MaxInt, isOK)},
		{seatOf(5, 1, isOK), seatOf(5, 2, isOK)}, {seatOf(5, 1, isOK), seatOf(4, 1, isOK)}, {seatOf(1, 1, isOK), seatOf(9, 1, isOK), seatOf(3, 1, isOK)},
		{seatOf(1, 1, isOK), seatOf(9, 0, isOK)}, {{}}, {{Client: 3}},
	} {
		l = append(l, changed(New(), seats(x...)), changed(some(), seats(x...)))
	}
	return l
}

// unanswered are states that are right, with right seats, one of which has a reply that is none.
func unanswered() []api.State {
	var l []api.State
	for _, r := range noReplies() {
		l = append(l, changed(New(), seats(seatOf(0, 1, r))), changed(some(), seats(seatOf(1, 1, r), seatOf(2, 1, isOK))), changed(some(), seats(seatOf(1, 1, isOK), seatOf(2, 1, isStale), seatOf(3, 1, r))))
	}
	for i := range 6 {
		l = append(l, changed(seated(6), func(s *api.State) { s.Seats[i].Reply = "x" }))
	}
	return l
}

// wrongStates are states that are not whole, each for one reason.
func wrongStates() []api.State {
	l := append(notRight(), wrongSeats()...)
	return append(append(l, unanswered()...), changed(some(), seats(seatOf(1, 1, strings.Repeat("x", 8193)))))
}

// TestStates: what the states above lack is that one thing alone.
func TestStates(t *testing.T) {
	answered := func(s api.State) bool {
		for _, x := range s.Seats {
			if _, e := answer.Unpack(x.Reply); e != api.OK {
				return false
			}
		}
		return true
	}
	for i, s := range notRight() {
		if nfs.Check(s) == api.OK || seat.Check(s.Seats) != api.OK || !answered(s) {
			t.Errorf("notRight %d: %.500v", i, s)
		}
	}
	for i, s := range wrongSeats() {
		if nfs.Check(s) != api.OK || seat.Check(s.Seats) == api.OK || !answered(s) {
			t.Errorf("wrongSeats %d: %.500v", i, s)
		}
	}
	for i, s := range unanswered() {
		if nfs.Check(s) != api.OK || seat.Check(s.Seats) != api.OK || answered(s) {
			t.Errorf("unanswered %d: %.500v", i, s)
		}
	}
	if some().Done != someDone || len(some().Opens) != 2 || some().Inodes[orphan.No].Attr.Links != 0 {
		t.Errorf("some: %v", some())
	}
}

// 17.1

func TestNew(t *testing.T) {
	w := api.State{Inodes: []api.Inode{{Gen: 1, Attr: api.Attr{Kind: api.KindDir, Links: 1}}}}
	s := New()
	if !same(s, w) || !same(s, nfs.New()) || Check(s) != api.OK {
		t.Errorf("New: %v", s)
	}
	s.Inodes[0] = api.Inode{Gen: 7}
	if !same(New(), w) {
		t.Errorf("New behind a change of what was told: %v", New())
	}
}

func TestCheck(t *testing.T) {
	for i, s := range wholeStates() {
		if e := Check(s); e != api.OK {
			t.Errorf("whole state %d: %v, %.1000v", i, e, s)
		}
	}
	for i, s := range wrongStates() {
		if e := Check(s); e != api.ErrForm {
			t.Errorf("wrong state %d: %v, %.1000v", i, e, s)
		}
	}
}

func TestKnown(t *testing.T) {
	s := some()
	wantKnown(t, s, 2, 3, isStale, true)
	wantKnown(t, s, 5, 7, isOK, true)
	wantKnown(t, s, 9, api.MaxBig, isNumber3, true)
	for _, x := range [][2]int{
		// Earlier ones, later ones, those of clients without a seat, and what is none.
		{2, 2}, {2, 1}, {2, 4}, {2, api.MaxBig}, {5, 6}, {5, 8}, {5, 3}, {9, api.MaxBig - 1}, {9, 1},
		{0, 1}, {1, 3}, {3, 3}, {4, 7}, {6, 7}, {8, api.MaxBig}, {10, api.MaxBig}, {api.MaxBig, 3},
		{-1, 3}, {api.MaxBig + 1, 3}, {math.MinInt, 3}, {math.MaxInt, 3}, {2, 0}, {2, -3}, {9, api.MaxBig + 1}, {2, math.MinInt}, {2, math.MaxInt},
	} {
		wantKnown(t, s, x[0], x[1], "", false)
		wantKnown(t, New(), x[0], x[1], "", false)
	}
	for _, s := range wholeStates() {
		for _, x := range s.Seats {
			wantKnown(t, s, x.Client, x.Req, x.Reply, true)
			wantKnown(t, s, x.Client, x.Req-1, "", false)
			wantKnown(t, s, x.Client, x.Req+1, "", false)
		}
	}
	for _, s := range wrongStates() {
		for _, x := range append(s.Seats, seatOf(2, 3, ""), seatOf(0, 1, "")) {
			wantKnown(t, s, x.Client, x.Req, "", false)
		}
	}
}
