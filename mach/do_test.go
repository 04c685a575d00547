package mach

import (
	"math"
	"reflect"
	"slices"
	"strings"
	"testing"

	"sexton/api"
	"sexton/nfs"
)

// odds are bodies of all kinds: calls, and what is none.
func odds() []string {
	return []string{body(mk(root, "new")), body(mkdir(root, "a")), body(write(fileB, 0, "w")), body(closeCall(0)), "", "x", strings.Repeat("z", 5000)}
}

// noCalls are bodies that are no call's.
func noCalls() []string {
	c := body(mk(root, "new"))
	return []string{"", "x", "\x00", "\x01\x00\x01\x00", "\x01\x00\x01\x0f", c[1:], c[:len(c)-1], c + "x", c + c, strings.Repeat("z", 70000), isStale}
}

// behind is the state and the reply that a fresh item should leave: the service's, with the client's seat.
func behind(s api.State, x api.Item, c api.Call) (api.State, string) {
	next, r := nfs.Do(s, x.Client, c)
	told := reply(r)
	return changed(next, takes(x.Client, x.Req, told)), told
}

// takes sets a client's seat, in the place that is its own.
func takes(client, req int, told string) func(*api.State) {
	return func(s *api.State) {
		l := slices.DeleteFunc(slices.Clone(s.Seats), func(x api.Seat) bool { return x.Client == client })
		l = append(l, seatOf(client, req, told))
		slices.SortFunc(l, func(a, b api.Seat) int { return a.Client - b.Client })
		s.Seats = l
	}
}

// 17.2

func TestExample(t *testing.T) {
	s, first, e := Do(New(), item(5, 1, mk(root, "a")))
	if want := reply(api.Reply{H: at(1, 1), Attr: api.Attr{Kind: api.KindFile, Links: 1, Stamp: 1}}); first != want || e != api.OK || s.Done != 1 {
		t.Errorf("make a: %v, %q, %v", s, first, e)
	}
	again, second, e := Do(s, item(5, 1, mk(root, "a")))
	if second != first || e != api.OK || again.Done != 1 || !same(again, s) {
		t.Errorf("the same item: %v, %q, %v", again, second, e)
	}
}

func TestArguments(t *testing.T) {
	big := api.MaxBig
	for _, s := range []api.State{New(), some(), seated(6)} {
		for _, client := range []int{-1, big + 1, math.MinInt, math.MaxInt} {
			for _, req := range []int{0, 1, 7, big, big + 1} {
				fails(t, s, item(client, req, mk(root, "new")), api.ErrArg)
			}
		}
		for _, req := range []int{0, -1, big + 1, math.MinInt, math.MaxInt} {
			for _, client := range []int{0, 1, 2, 5, big} {
				for _, b := range odds() {
					fails(t, s, api.Item{Client: client, Req: req, Body: b}, api.ErrArg)
				}
			}
		}
	}
	for _, client := range []int{0, 1, big - 1, big} {
		for _, req := range []int{1, 2, big - 1, big} {
			x := item(client, req, mk(root, "new"))
			w, told := behind(some(), x, mk(root, "new"))
			want(t, some(), x, told, w)
		}
	}
}

// TestView: the view in which an item was taken is not looked at.
func TestView(t *testing.T) {
	for _, view := range []int{math.MinInt, -1, 0, 1, api.MaxBig, api.MaxBig + 1, math.MaxInt} {
		x := item(3, 1, mk(root, "new"))
		w, told := behind(some(), x, mk(root, "new"))
		x.View = view
		want(t, some(), x, told, w)
	}
}

// TestDone: of a state to which no more can be done nothing is told, not even what is known.
func TestDone(t *testing.T) {
	s := changed(some(), done(api.MaxBig))
	for _, x := range [][2]int{{2, 3}, {2, 2}, {2, 4}, {3, 1}, {5, 7}} {
		for _, b := range odds() {
			fails(t, s, api.Item{Client: x[0], Req: x[1], Body: b}, api.ErrFull)
		}
	}
	fails(t, changed(seated(6), done(api.MaxBig)), item(2, 1, mk(root, "new")), api.ErrFull)
	// The last operation that can be done.
	s = changed(some(), done(api.MaxBig-1))
	x := item(3, 1, mk(root, "new"))
	w, told := behind(s, x, mk(root, "new"))
	if want(t, s, x, told, w); w.Done != api.MaxBig {
		t.Errorf("Done: %d", w.Done)
	}
	x = api.Item{Client: 3, Req: 1}
	want(t, s, x, isBadCall, changed(s, done(api.MaxBig), takes(3, 1, isBadCall)))
}

// TestOrder: of several faults the one that the chapter names first is told.
func TestOrder(t *testing.T) {
	for _, s := range wrongStates() {
		for _, f := range []func(*api.State){func(*api.State) {}, done(api.MaxBig)} {
			if s = changed(s, f); Check(s) == api.OK {
				continue
			}
			fails(t, s, item(2, 3, mk(root, "new")), api.ErrForm)
			fails(t, s, item(2, 0, mk(root, "new")), api.ErrForm)
			fails(t, s, item(-1, 3, mk(root, "new")), api.ErrForm)
			fails(t, s, api.Item{}, api.ErrForm)
		}
	}
	for _, s := range []api.State{changed(New(), done(api.MaxBig)), changed(some(), done(api.MaxBig)), changed(seated(6), done(api.MaxBig))} {
		fails(t, s, item(-1, 3, mk(root, "new")), api.ErrArg)
		fails(t, s, item(api.MaxBig+1, 3, mk(root, "new")), api.ErrArg)
		fails(t, s, item(2, 0, mk(root, "new")), api.ErrArg)
		fails(t, s, item(2, api.MaxBig+1, mk(root, "new")), api.ErrArg)
		fails(t, s, api.Item{Client: -1}, api.ErrArg)
		fails(t, s, item(2, 3, mk(root, "new")), api.ErrFull)
	}
}

// TestTold: what was done is answered the same, whatever the body is, and changes nothing.
func TestTold(t *testing.T) {
	for _, b := range odds() {
		stays(t, some(), api.Item{Client: 2, Req: 3, Body: b}, isStale)
		stays(t, some(), api.Item{Client: 5, Req: 7, Body: b}, isOK)
		stays(t, some(), api.Item{Client: 9, Req: api.MaxBig, Body: b}, isNumber3)
		for i := range 6 {
			stays(t, seated(6), api.Item{Client: 2*i + 1, Req: 10, Body: b}, isTaken)
		}
		for _, r := range rightReplies() {
			stays(t, changed(some(), seats(seatOf(4, 1, r))), api.Item{Client: 4, Req: 1, Body: b}, r)
		}
	}
}

func TestPast(t *testing.T) {
	for _, b := range odds() {
		for _, x := range [][2]int{{2, 1}, {2, 2}, {5, 1}, {5, 6}, {9, 1}, {9, api.MaxBig - 1}} {
			stays(t, some(), api.Item{Client: x[0], Req: x[1], Body: b}, isState)
		}
		for i := range 6 {
			stays(t, seated(6), api.Item{Client: 2*i + 1, Req: 9, Body: b}, isState)
		}
	}
}

func TestFull(t *testing.T) {
	for _, b := range odds() {
		for _, client := range []int{0, 2, 4, 6, 8, 10, 12, 99, api.MaxBig} {
			for _, req := range []int{1, 10, api.MaxBig} {
				stays(t, seated(6), api.Item{Client: client, Req: req, Body: b}, isFull)
			}
		}
	}
	// While there is a seat that nobody has, one may come; and those that have one may go on.
	for _, client := range []int{0, 2, 4, 6, 8, 10, 12, api.MaxBig} {
		w, told := behind(seated(5), item(client, 1, mk(root, "new")), mk(root, "new"))
		want(t, seated(5), item(client, 1, mk(root, "new")), told, w)
	}
	for i := range 6 {
		x := item(2*i+1, 11, mk(root, "new"))
		w, told := behind(seated(6), x, mk(root, "new"))
		want(t, seated(6), x, told, w)
	}
}

// freshRequests are those that some has not seen.
func freshRequests() [][2]int {
	return [][2]int{{0, 1}, {0, api.MaxBig}, {1, 5}, {2, 4}, {2, api.MaxBig}, {3, 3}, {5, 8}, {5, 100}, {7, 1}, {10, 1}, {api.MaxBig, 2}}
}

// TestFresh: the service does it, for that client, and the seat has it.
func TestFresh(t *testing.T) {
	for _, c := range []api.Call{
		mk(root, "new"), mkdir(dirA, "new"), write(fileB, 1, "xyz"), read(fileB, 0, 99), unlink(root, "f"), openCall(fileB), closeCall(0), closeCall(1),
		{Kind: api.CallLook, H: root, Name: "a"}, {Kind: api.CallAttr, H: dirA}, {Kind: api.CallCut, H: fileB, At: 7}, {Kind: api.CallLink, H: orphan, H2: dirA, Name: "o"},
		{Kind: api.CallRename, H: dirA, Name: "b", H2: root, Name2: "b"}, {Kind: api.CallList, H: dirA, N: 9},
		// Those that tell an error.
		mk(root, "a"), mk(root, "."), mk(fileB, "x"), mk(at(9, 9), "x"), write(dirA, 0, "x"), write(fileB, api.MaxSize, "x"), write(fileB, 0, strings.Repeat("w", 513)),
		read(at(3, 1), 0, 1), closeCall(5), unlink(root, "no"), unlink(root, "a"), {Kind: api.CallRmdir, H: root, Name: "a"}, {Kind: api.CallRename, H: root, Name: "a", H2: dirA, Name2: "x"},
	} {
		for _, r := range freshRequests() {
			x := item(r[0], r[1], c)
			w, told := behind(some(), x, c)
			want(t, some(), x, told, w)
			s, _, _ := Do(some(), x)
			if s.Done != someDone+1 {
				t.Errorf("%v: Done is %d", c, s.Done)
			}
			wantKnown(t, s, r[0], r[1], told, true)
		}
	}
}

// TestFreshReplies: what the service answers is told.
func TestFreshReplies(t *testing.T) {
	for _, x := range []struct {
		c api.Call
		r api.Reply
	}{
		{mk(root, "new"), api.Reply{H: at(4, 1), Attr: api.Attr{Kind: api.KindFile, Links: 1, Stamp: 11}}},
		{mkdir(root, "new"), api.Reply{H: at(4, 1), Attr: api.Attr{Kind: api.KindDir, Links: 1, Stamp: 11}}},
		{read(fileB, 3, 5), api.Reply{Data: "\x00\x00hel"}},
		{write(fileB, 10, "!"), api.Reply{Attr: api.Attr{Kind: api.KindFile, Links: 2, Size: 11, Stamp: 11}}},
		{openCall(orphan), api.Reply{N: 2}},
		{closeCall(1), api.Reply{}},
		{mk(root, "a"), api.Reply{E: api.Taken}},
		{closeCall(7), api.Reply{E: api.NotOpen}},
		{read(at(3, 1), 0, 1), api.Reply{E: api.Stale}},
		{api.Call{Kind: api.CallList, H: root, N: 9}, api.Reply{Entries: []api.Entry{{Name: "a", Cookie: 1, To: dirA}, {Name: "f", Cookie: 2, To: fileB}}}},
	} {
		if _, told, e := Do(some(), item(5, 8, x.c)); told != reply(x.r) || e != api.OK {
			t.Errorf("%v: %q, %v; want %v", x.c, told, e, x.r)
		}
	}
	// A close is another client's matter.
	if _, told, _ := Do(some(), item(7, 8, closeCall(1))); told != reply(api.Reply{E: api.NotOpen}) {
		t.Errorf("another client's close: %q", told)
	}
}

// TestBadCall: bytes that are no call are an operation too, of which the seat has the reply.
func TestBadCall(t *testing.T) {
	for _, b := range noCalls() {
		for _, r := range freshRequests() {
			x := api.Item{Client: r[0], Req: r[1], Body: b}
			want(t, some(), x, isBadCall, changed(some(), done(someDone+1), takes(r[0], r[1], isBadCall)))
			s, _, _ := Do(some(), x)
			wantKnown(t, s, r[0], r[1], isBadCall, true)
		}
		want(t, New(), api.Item{Req: 1, Body: b}, isBadCall, changed(New(), done(1), seats(seatOf(0, 1, isBadCall))))
	}
}

// TestPages: the longest replies that there are find room in a seat.
func TestPages(t *testing.T) {
	s := New()
	names := 0
	do := func(c api.Call) api.Reply {
		next, r := nfs.Do(s, 1, c)
		if r.E != api.OK {
			t.Fatalf("%v: %v", c, r.E)
		}
		s = next
		return r
	}
	name := func() string {
		names++
		return strings.Repeat("n", 29) + string([]byte{'a' + byte(names%26), 'a' + byte(names/26), 'z'})
	}
	f := do(mk(root, name())).H
	for range 63 {
		do(api.Call{Kind: api.CallLink, H: f, H2: root, Name: name()})
	}
	do(write(f, 0, strings.Repeat("w", 512)))
	for _, c := range []api.Call{{Kind: api.CallList, H: root, N: 65535}, read(f, 0, 512)} {
		x := item(3, 1, c)
		w, told := behind(s, x, c)
		if want(t, s, x, told, w); len(told) < 512 {
			t.Errorf("%v: %q", c, told)
		}
	}
}

// TestMemory: what is handed in is not changed, spare room too, nor is what was told by what comes behind it.
func TestMemory(t *testing.T) {
	s, untouched := some(), some()
	var all []api.State
	var were []api.State
	for i, c := range []api.Call{mk(root, "new"), write(fileB, 0, "x"), openCall(fileB), closeCall(1), unlink(root, "f"), mk(root, "new"), {Kind: api.CallList, H: root, N: 5}} {
		for _, from := range append([]api.State{s}, all...) {
			for _, x := range []api.Item{item(5, 8+i, c), item(7, 8+i, c), {Client: 5, Req: 8 + i, Body: "x"}, item(2, 3, c), item(2, 1, c)} {
				if next, _, e := Do(from, x); e == api.OK && len(all) < 60 {
					all = append(all, next)
					were = append(were, plain(next))
				}
			}
		}
	}
	Run(s, []api.Item{item(5, 8, mk(root, "x")), item(6, 1, mk(root, "y")), item(6, 1, mk(root, "y"))})
	Known(s, 5, 7)
	full := func(s api.State) api.State {
		s.Inodes, s.Opens, s.Seats = s.Inodes[:cap(s.Inodes)], s.Opens[:cap(s.Opens)], s.Seats[:cap(s.Seats)]
		return s
	}
	if !same(full(s), full(untouched)) {
		t.Errorf("what was handed in is changed: %v", full(s))
	}
	for i, s := range all {
		if !same(s, were[i]) {
			t.Errorf("what was told is changed: %v; it was %v", s, were[i])
		}
	}
	if len(all) < 60 {
		t.Errorf("only %d states were told", len(all))
	}
}

// TestTotal: every call ends, none panics (P1).
func TestTotal(t *testing.T) {
	numbers := []int{math.MinInt, -1, 0, 1, 3, api.MaxBig, api.MaxBig + 1, math.MaxInt}
	for _, s := range append(wholeStates(), wrongStates()...) {
		whole := Check(s) == api.OK
		for _, client := range numbers {
			for _, req := range numbers {
				for _, b := range []string{"", "\xff", body(mk(root, "q"))} {
					x := api.Item{View: req, Client: client, Req: req, Body: b}
					got, told, e := Do(s, x)
					if whole == (e == api.ErrForm) || e == api.OK && Check(got) != api.OK || e != api.OK && (told != "" || !reflect.DeepEqual(got, api.State{})) {
						t.Fatalf("Do(%.500v, %v): %.500v, %q, %v", s, x, got, told, e)
					}
					Run(s, []api.Item{x, x})
				}
				Known(s, client, req)
			}
		}
	}
}
