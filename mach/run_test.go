package mach

import (
	"reflect"
	"slices"
	"strconv"
	"testing"

	"sexton/api"
	"sexton/nfs"
)

// wantRun holds what items do against what they should.
func wantRun(t *testing.T, s api.State, l []api.Item, behind api.State, told []string) {
	t.Helper()
	got, replies, e := Run(s, l)
	if e != api.OK || !slices.Equal(replies, told) || !same(got, behind) {
		t.Errorf("Run(%.500v, %.500v): %.500v, %q, %v; want %.500v, %q", s, l, got, replies, e, behind, told)
	}
}

// failsRun holds what items do against an error, beside which nothing else is told.
func failsRun(t *testing.T, s api.State, l []api.Item, want api.Errno) {
	t.Helper()
	before := plain(s)
	got, replies, e := Run(s, l)
	if e != want || len(replies) != 0 || !reflect.DeepEqual(got, api.State{}) || !same(s, before) {
		t.Errorf("Run(%.500v, %.500v): %.500v, %q, %v; want %v", s, l, got, replies, e, want)
	}
}

// some items, of which one is asked for again, one is past and one is no call.
func items() []api.Item {
	return []api.Item{
		item(1, 1, mk(root, "x")), item(4, 2, mkdir(root, "d")), item(1, 1, mk(root, "x")), item(1, 3, mk(root, "x")),
		{Client: 4, Req: 3, Body: "no"}, item(1, 2, mk(root, "y")), item(6, 1, openCall(at(1, 1))), item(6, 2, closeCall(0)),
	}
}

// 17.3

func TestRun(t *testing.T) {
	made := reply(api.Reply{H: at(1, 1), Attr: api.Attr{Kind: api.KindFile, Links: 1, Stamp: 1}})
	folder := reply(api.Reply{H: at(2, 1), Attr: api.Attr{Kind: api.KindDir, Links: 1, Stamp: 2}})
	told := []string{made, folder, made, isTaken, isBadCall, isState, isOK, isOK}
	w := api.State{
		Inodes: []api.Inode{
			{Gen: 1, Attr: api.Attr{Kind: api.KindDir, Links: 1, Size: 2, Stamp: 2}, Entries: []api.Entry{{Name: "x", Cookie: 1, To: at(1, 1)}, {Name: "d", Cookie: 2, To: at(2, 1)}}, Next: 2},
			{Gen: 1, Attr: api.Attr{Kind: api.KindFile, Links: 1, Stamp: 1}},
			{Gen: 1, Attr: api.Attr{Kind: api.KindDir, Links: 1, Stamp: 2}},
		},
		Seats: []api.Seat{seatOf(1, 3, isTaken), seatOf(4, 3, isBadCall), seatOf(6, 2, isOK)},
		Done:  6,
	}
	wantRun(t, New(), items(), w, told)
	for _, s := range wholeStates() {
		wantRun(t, s, nil, s, nil)
		wantRun(t, s, []api.Item{}, s, nil)
	}
}

// TestRunOne: to run one item is to do it.
func TestRunOne(t *testing.T) {
	for _, s := range append(wholeStates(), wrongStates()...) {
		for _, x := range append(items(), item(-1, 1, mk(root, "x")), item(1, 0, mk(root, "x"))) {
			next, told, e := Do(s, x)
			if e != api.OK {
				failsRun(t, s, []api.Item{x}, e)
			} else {
				wantRun(t, s, []api.Item{x}, next, []string{told})
			}
		}
	}
}

// TestRunFails: the error of the first that tells one, wherever it stands.
func TestRunFails(t *testing.T) {
	wrong := []api.Item{item(-1, 1, mk(root, "w")), item(api.MaxBig+1, 1, mk(root, "w")), item(1, 0, mk(root, "w")), item(1, api.MaxBig+1, mk(root, "w"))}
	for i := range len(items()) + 1 {
		for _, x := range wrong {
			failsRun(t, New(), slices.Insert(items(), i, x), api.ErrArg)
			failsRun(t, some(), slices.Insert(items(), i, x), api.ErrArg)
		}
	}
	for _, s := range wrongStates() {
		failsRun(t, s, items(), api.ErrForm)
		failsRun(t, s, wrong, api.ErrForm)
	}
	// Behind the last operation that can be done there is none; what is wrong ahead of that is told.
	s := changed(New(), done(api.MaxBig-1))
	failsRun(t, s, items(), api.ErrFull)
	failsRun(t, s, items()[:2], api.ErrFull)
	failsRun(t, s, append(items()[:1:1], wrong[0]), api.ErrArg)
	failsRun(t, s, append(items()[:2:2], wrong[0]), api.ErrFull)
	if _, told, e := Run(s, items()[:1]); len(told) != 1 || e != api.OK {
		t.Errorf("the last operation: %q, %v", told, e)
	}
}

// TestRunNothing: without items there is nothing that tells an error.
func TestRunNothing(t *testing.T) {
	for _, s := range wrongStates() {
		wantRun(t, s, nil, s, nil)
	}
}

// TestRunMemory: what is told is new, and neither the items nor the state are changed.
func TestRunMemory(t *testing.T) {
	l, s := append(make([]api.Item, 0, 20), items()...), some()
	_, told, _ := Run(s, l)
	first := slices.Clone(told)
	for i := range told[:cap(told)] {
		told[:cap(told)][i] = "spoilt"
	}
	if _, again, _ := Run(s, l); !slices.Equal(again, first) {
		t.Errorf("Run again: %q; want %q", again, first)
	}
	if !slices.Equal(l, items()) || !slices.Equal(l[:20][len(l):], make([]api.Item, 20-len(l))) || !same(s, some()) {
		t.Errorf("Run changes what it is handed: %v, %v", l, s)
	}
}

// model is a machine in other words: the service's state, and the last request and reply of each client.
type model struct {
	s    api.State
	last map[int]api.Seat
}

func newModel() *model { return &model{s: nfs.New(), last: map[int]api.Seat{}} }

// state is what a model is of.
func (m *model) state() api.State {
	s := m.s
	s.Seats = nil
	for client := range 10 {
		if x, ok := m.last[client]; ok {
			s.Seats = append(s.Seats, x)
		}
	}
	return s
}

// do is an item's reply; c is its call, if it has one.
func (m *model) do(x api.Item, c api.Call) api.Reply {
	last, seated := m.last[x.Client]
	r := api.Reply{E: api.BadCall}
	switch {
	case !seated && len(m.last) == 6:
		return api.Reply{E: api.Sessions}
	case seated && last.Req > x.Req:
		return api.Reply{E: api.ErrState}
	case c.Kind == 0:
		m.s.Done++
	default:
		m.s, r = nfs.Do(m.s, x.Client, c)
	}
	m.last[x.Client] = seatOf(x.Client, x.Req, reply(r))
	return r
}

// rule is a walk by a rule of numbers.
type rule int

// below is the next number of the rule, below n.
func (r *rule) below(n int) int {
	*r = *r * 48271 % (1<<31 - 1)
	return int(*r>>4) % n
}

// call is a call, or, now and then, none.
func (r *rule) call() api.Call {
	h, name := at(r.below(6), 1+r.below(2)), "n"+strconv.Itoa(r.below(5))
	if r.below(2) == 0 {
		h = root
	}
	switch r.below(9) {
	case 0, 1:
		return mk(h, name)
	case 2:
		return mkdir(h, name)
	case 3:
		return write(h, r.below(50), "data")
	case 4:
		return read(h, r.below(50), 20)
	case 5:
		return unlink(h, name)
	case 6:
		return openCall(h)
	case 7:
		return closeCall(r.below(5))
	}
	return api.Call{}
}

// next is an item by one of n clients, and its call: a request that is done, an earlier one or a later one.
func (r *rule) next(m *model, n int) (api.Item, api.Call) {
	client, c := r.below(n), r.call()
	x := api.Item{View: r.below(9), Client: client, Req: max(1, m.last[client].Req-1+r.below(4)), Body: "none"}
	if c.Kind != 0 {
		x.Body = body(c)
	}
	return x, c
}

// 17.4

// TestWalk: items are held against the model; a request that is done is done once, also where it is asked for again with another body.
func TestWalk(t *testing.T) {
	r := rule(1)
	did := map[api.Errno]int{}
	again := 0
	for walk := range 20 {
		s, m := New(), newModel()
		for range 300 {
			x, c := r.next(m, 3+walk%8)
			told := m.last[x.Client].Reply
			if m.last[x.Client].Req == x.Req {
				again++
			} else {
				e := m.do(x, c)
				told = reply(e)
				did[e.E]++
			}
			want(t, s, x, told, m.state())
			s, _, _ = Do(s, x)
			if _, seated := m.last[x.Client]; seated && m.last[x.Client].Req == x.Req {
				stays(t, s, x, told)
				wantKnown(t, s, x.Client, x.Req, told, true)
			}
			if t.Failed() {
				t.FailNow()
			}
		}
	}
	for _, e := range []api.Errno{api.OK, api.ErrState, api.Sessions, api.BadCall, api.Taken, api.Stale, api.NotThere, api.NotOpen, api.Folder} {
		if did[e] < 20 {
			t.Errorf("%v was told %d times", e, did[e])
		}
	}
	if again < 500 {
		t.Errorf("only %d requests were asked for again", again)
	}
}

// 17.5

// TestRunTwo: to run two lists, one behind the other, is to run both as one, wherever they are cut.
func TestRunTwo(t *testing.T) {
	r, m := rule(5), newModel()
	for range 40 {
		var l []api.Item
		for range 12 {
			x, c := r.next(m, 8)
			if m.last[x.Client].Req != x.Req {
				m.do(x, c)
			}
			l = append(l, x)
		}
		if r.below(3) == 0 {
			l[r.below(12)].Req = -r.below(2)
		}
		for _, s := range []api.State{New(), some(), changed(some(), done(api.MaxBig-r.below(12)))} {
			all, replies, e := Run(s, l)
			for i := range len(l) + 1 {
				first, told, f := Run(s, l[:i])
				if f == api.OK {
					var more []string
					first, more, f = Run(first, l[i:])
					told = append(told, more...)
				}
				if f != e || e == api.OK && (!slices.Equal(told, replies) || !same(first, all)) {
					t.Fatalf("Run of %v cut at %d: %v, %q, %v; want %v, %q, %v", l, i, first, told, f, all, replies, e)
				}
			}
		}
	}
}
