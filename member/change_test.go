package member

import (
	"strings"
	"testing"

	"sexton/api"
	"sexton/memo"
)

// Ticks of those that do not lead.

func TestTicksTillChange(t *testing.T) {
	for _, n := range []int{3, 5, 7} {
		for id := 1; id < n; id++ {
			x := made(t, id, n)
			for view := 1; view < 4; view++ { // while changing it counts again
				for i := 1; i < 8+3*id; i++ {
					if out := x.Tick(); len(out) != 0 {
						t.Fatalf("node %d of %d, tick %d: %v", id, n, i, opened(t, out))
					}
				}
				sends(t, x.Tick(), toEach(memo.Memo{Kind: memo.Change, View: view}, x.others()...)...)
				stands(t, x, Stand{Up: true, Status: Changing, View: view})
			}
		}
	}
	// Node 0, in a view that it does not lead: 8.
	x := made(t, 0, 3)
	x.Letter(2, said(3, memo.Memo{Kind: memo.Change, View: 1}))
	for range 7 {
		sends(t, x.Tick())
	}
	sends(t, x.Tick(), toEach(memo.Memo{Kind: memo.Change, View: 2}, 1, 2)...)
}

func TestWhatIsHeardOfTheLeader(t *testing.T) {
	prepare := said(3, memo.Memo{Kind: memo.Prepare})
	change := said(3, memo.Memo{Kind: memo.Change, View: 1})
	for _, c := range []struct {
		what  string
		from  int
		text  string
		heard bool
	}{
		{"a Prepare", 0, prepare, true},
		{"a Prepare of a greater view", 1, said(3, memo.Memo{Kind: memo.Prepare, View: 1}), true},
		{"a Start", 1, said(3, memo.Memo{Kind: memo.Start, View: 1}), true},
		{"a Change, which changes", 1, change, true},
		{"a Prepare of nobody who leads", 1, prepare, false},
		{"a Recover", 0, said(3, memo.Memo{Kind: memo.Recover, Lives: []int{1, 0, 0}}), false},
		{"an Ack", 0, said(3, memo.Memo{Kind: memo.Ack}), false},
		{"a Request", 3, request(3, 1, mk("a")), false},
		{"a Change of its view", 0, said(3, memo.Memo{Kind: memo.Change}), false},
	} {
		x := made(t, 2, 3)
		for range 13 {
			x.Tick()
		}
		x.Letter(c.from, c.text)
		if out := x.Tick(); has(t, out, memo.Change) == c.heard {
			t.Errorf("%s: %v", c.what, opened(t, out))
		}
		if !c.heard {
			continue
		}
		for range 12 {
			sends(t, x.Tick())
		}
		if out := x.Tick(); !has(t, out, memo.Change) {
			t.Errorf("%s: no Change", c.what)
		}
	}
	// While it is changing the leader of its view is heard, too.
	x := made(t, 2, 3)
	x.Letter(0, change)
	for range 13 {
		x.Tick()
	}
	x.Letter(1, said(3, memo.Memo{Kind: memo.Prepare, View: 1}))
	for range 13 {
		sends(t, x.Tick())
	}
	if out := x.Tick(); !has(t, out, memo.Change) {
		t.Error("no Change")
	}
}

func TestLastView(t *testing.T) {
	x := made(t, 2, 3)
	x.Letter(1, said(3, memo.Memo{Kind: memo.Change, View: big - 1}))
	for range 14 {
		x.Tick()
	}
	stands(t, x, Stand{Up: true, Status: Changing, View: big})
	for range 50 {
		sends(t, x.Tick()) // there is no next one
	}
	stands(t, x, Stand{Up: true, Status: Changing, View: big})
}

// Change.

func TestChangeWithEnough(t *testing.T) {
	for _, n := range []int{3, 5, 7} {
		f := n / 2
		id := n - 1 // a witness
		x := made(t, id, n)
		x.Letter(0, said(n, memo.Memo{Kind: memo.Prepare, Items: items(3), Commit: 2}))
		offer := sent{1, memo.Memo{Kind: memo.Offer, View: 1, Op: 3, Commit: 2, Items: items(3)}}
		for node := range f {
			out := x.Letter(node, said(n, memo.Memo{Kind: memo.Change, View: 1}))
			var want []sent
			if node == 0 { // it changes to it
				want = toEach(memo.Memo{Kind: memo.Change, View: 1}, x.others()...)
			}
			if node == f-1 {
				want = append(want, offer)
			}
			sends(t, out, want...)
			sends(t, x.Letter(node, said(n, memo.Memo{Kind: memo.Change, View: 1}))) // one counts once
		}
		sends(t, x.Letter(n-2, said(n, memo.Memo{Kind: memo.Change, View: 1}))) // it has offered
		stands(t, x, Stand{Up: true, Status: Changing, View: 1, Last: 3, Commit: 2})
	}
}

func TestChangesOfOtherViews(t *testing.T) {
	x := made(t, 4, 5)
	x.Letter(0, said(5, memo.Memo{Kind: memo.Change, View: 2}))
	x.Letter(1, said(5, memo.Memo{Kind: memo.Change, View: 1})) // of a lesser one
	stands(t, x, Stand{Up: true, Status: Changing, View: 2})
	out := x.Letter(2, said(5, memo.Memo{Kind: memo.Change, View: 5})) // those of view 2 do not count in view 5
	sends(t, out, toEach(memo.Memo{Kind: memo.Change, View: 5}, 0, 1, 2, 3)...)
	stands(t, x, Stand{Up: true, Status: Changing, View: 5})
	out = x.Letter(0, said(5, memo.Memo{Kind: memo.Change, View: 5}))
	sends(t, out, sent{2, memo.Memo{Kind: memo.Offer, View: 5}})
}

func TestChangeAtTheLeader(t *testing.T) {
	x := made(t, 0, 3)
	x.Letter(3, request(3, 1, mk("a")))
	out := x.Letter(2, said(3, memo.Memo{Kind: memo.Change, View: 1}))
	want := toEach(memo.Memo{Kind: memo.Change, View: 1}, 1, 2)
	sends(t, out, append(want, sent{1, memo.Memo{Kind: memo.Offer, View: 1, Op: 1, Items: x.Items()}})...)
	stands(t, x, Stand{Up: true, Status: Changing, View: 1, Last: 1})
	sends(t, x.Letter(1, said(3, memo.Memo{Kind: memo.Ack, Op: 1}))) // it leads no longer
	sends(t, x.Letter(3, request(3, 2, mk("b"))), sent{3, memo.Memo{Kind: memo.Told, Client: 3, View: 1}})
	stands(t, x, Stand{Up: true, Status: Changing, View: 1, Last: 1})
}

// A view that has begun is not changed to again.
func TestChangeOfItsOwnView(t *testing.T) {
	for id := range 3 {
		for _, kind := range []int{memo.Change, memo.Offer, memo.Start} {
			for from := range 3 {
				if from != id {
					text := said(3, memo.Memo{Kind: kind, Op: 2, Items: items(2)})
					ignores(t, func() *Member { return lively(t, id) }, "a view that has begun", from, text)
				}
			}
		}
	}
}

// Offers.

func offer(n int, normal, op, commit int, l []api.Item) string {
	return said(n, memo.Memo{Kind: memo.Offer, View: 1, Normal: normal, Op: op, Base: op - len(l), Commit: commit, Items: l})
}

func TestOffersOfEnough(t *testing.T) {
	for _, n := range []int{3, 5, 7} {
		f := n / 2
		x := made(t, 1, n)
		for range 11 {
			x.Tick()
		}
		for i := range f {
			from := n - 1 - i
			out := x.Letter(from, offer(n, 0, 2, 1, items(2)))
			sends(t, x.Letter(from, offer(n, 0, 2, 1, items(2)))) // one counts once
			if i < f-1 {
				sends(t, out)
				stands(t, x, Stand{Up: true, Status: Changing, View: 1})
				continue
			}
			sends(t, out[:n-1], toEach(memo.Memo{Kind: memo.Start, View: 1, Op: 2, Commit: 1, Items: items(2)}, x.others()...)...)
			if len(out) != n || out[n-1].To != 9 {
				t.Errorf("%v", opened(t, out))
			}
		}
		stands(t, x, Stand{Up: true, Status: Normal, View: 1, Last: 2, Commit: 1, Applied: 1})
	}
}

// Offers of one view do not count in another one.
func TestOffersOfOtherViews(t *testing.T) {
	x := made(t, 1, 5)
	x.Letter(3, offer(5, 0, 2, 0, items(2)))
	x.Letter(4, said(5, memo.Memo{Kind: memo.Offer, View: 4}))
	out := x.Letter(0, said(5, memo.Memo{Kind: memo.Change, View: 4}))
	sends(t, out)
	stands(t, x, Stand{Up: true, Status: Changing, View: 4})
	if out := x.Letter(0, said(5, memo.Memo{Kind: memo.Offer, View: 4})); !has(t, out, memo.Start) {
		t.Errorf("%v", opened(t, out))
	}
	stands(t, x, Stand{Up: true, Status: Normal, View: 4})
}

// The primary's own offer counts when enough change, though no other came.
func TestOwnOffer(t *testing.T) {
	x := made(t, 1, 3)
	x.Letter(0, said(3, memo.Memo{Kind: memo.Prepare, Items: items(3), Commit: 1}))
	sends(t, x.Letter(2, said(3, memo.Memo{Kind: memo.Change, View: 1})), toEach(memo.Memo{Kind: memo.Change, View: 1}, 0, 2)...)
	out := x.Letter(2, offer(3, 0, 1, 1, items(1)))
	want := toEach(memo.Memo{Kind: memo.Start, View: 1, Op: 3, Commit: 1, Items: items(3)}, 0, 2)
	sends(t, out, want...)
	stands(t, x, Stand{Up: true, Status: Normal, View: 1, Last: 3, Commit: 1, Applied: 1})
}

func TestBestOffer(t *testing.T) {
	other := []api.Item{item(0, 8, 1), item(0, 8, 2), item(0, 8, 3), item(0, 8, 4)}
	for i, c := range []struct {
		a, b   string // of nodes 3 and 4
		best   []api.Item
		commit int
	}{
		{offer(5, 0, 0, 0, nil), offer(5, 0, 0, 0, nil), items(3), 1},
		{offer(5, 0, 4, 0, other), offer(5, 0, 1, 0, other[:1]), other, 1},
		{offer(5, 0, 1, 0, other[:1]), offer(5, 0, 4, 3, other), other, 3},
		{offer(5, 0, 3, 2, other[:3]), offer(5, 0, 3, 0, other[:3]), items(3), 2}, // the least node
		{offer(5, 2, 1, 0, other[:1]), offer(5, 1, 4, 0, other), other[:1], 1},    // the greatest Normal
		{offer(5, 0, 4, 0, other), offer(5, 1, 2, 2, other[:2]), other[:2], 2},
	} {
		x := made(t, 1, 5)
		x.Letter(0, said(5, memo.Memo{Kind: memo.Prepare, Items: items(3), Commit: 1}))
		for range 11 {
			x.Tick()
		}
		x.Letter(3, c.a)
		if s := x.Stand(); s.Status != Changing {
			t.Errorf("%d: %v", i, s)
		}
		x.Letter(4, c.b)
		stands(t, x, Stand{Up: true, Status: Normal, View: 1, Last: len(c.best), Commit: c.commit, Applied: c.commit})
		if !sameItems(x.Items(), c.best) {
			t.Errorf("%d: %v", i, x.Items())
		}
	}
}

func sameItems(a, b []api.Item) bool {
	if len(a) != len(b) {
		return false
	}
	for i := range a {
		if a[i] != b[i] {
			return false
		}
	}
	return true
}

// The view in which a member was normal last is told, and counts.
func TestNormalIsTold(t *testing.T) {
	x := made(t, 2, 3)
	x.Letter(1, said(3, memo.Memo{Kind: memo.Start, View: 7, Op: 2, Items: items(2)}))
	x.Letter(0, said(3, memo.Memo{Kind: memo.Change, View: 9}))
	out := x.Letter(1, said(3, memo.Memo{Kind: memo.Change, View: 12}))
	want := toEach(memo.Memo{Kind: memo.Change, View: 12}, 0, 1)
	sends(t, out, append(want, sent{0, memo.Memo{Kind: memo.Offer, View: 12, Normal: 7, Op: 2, Items: items(2)}})...)
}

func TestOffersElsewhere(t *testing.T) {
	// To one that is not the primary, or not whole.
	for _, id := range []int{0, 2} {
		ignores(t, func() *Member { return lively(t, id) }, "an Offer to another", 1, offer(3, 0, 2, 0, items(2)))
	}
	for _, m := range []memo.Memo{
		{Kind: memo.Offer, View: 1, Op: 3, Items: items(2)},
		{Kind: memo.Offer, View: 1, Op: 1, Items: items(2)},
		{Kind: memo.Offer, View: 1, Op: 2, Base: 1, Items: items(2)},
		{Kind: memo.Offer, View: 1, Op: 5},
	} {
		ignores(t, func() *Member { return lively(t, 1) }, "an Offer that is not whole", 2, said(3, m))
	}
}

// A log is taken behind its Base, as far as that is behind one's own.
func TestOffersOfTrimmedLogs(t *testing.T) {
	l := items(8)
	for _, c := range []struct{ own, ownLast, base, last int }{
		{0, 3, 0, 8}, {2, 3, 0, 8}, {0, 5, 4, 8}, {3, 5, 4, 8}, {4, 5, 4, 4 + 1}, {4, 5, 3, 6}, {5, 5, 0, 5}, {5, 5, 5, 5}, {0, 5, 5, 5},
	} {
		for _, start := range []bool{false, true} { // of a Start likewise
			id := 1
			if start {
				id = 2
			}
			x := made(t, id, 3)
			x.Letter(0, said(3, memo.Memo{Kind: memo.Prepare, Items: l[:c.ownLast], Commit: c.ownLast, Low: c.own}))
			m := memo.Memo{Kind: memo.Offer, View: 1, Op: c.last, Base: c.base, Commit: c.last, Items: l[c.base:c.last]}
			from := 2
			if start {
				m.Kind, from = memo.Start, 1
			}
			x.Letter(from, said(3, m))
			s := x.Stand()
			if s.Status != Normal || s.View != 1 || s.Base != c.own || s.Last != c.last || s.Commit != c.last {
				t.Errorf("%+v: %v", c, s)
			}
			if !sameItems(x.Items(), l[c.own:c.last]) {
				t.Errorf("%+v: %v", c, x.Items())
			}
		}
	}
}

// What cannot be is not taken: nothing falls, there are no gaps.
func TestOffersThatCannotBe(t *testing.T) {
	l := items(8)
	falling := []api.Item{item(3, 9, 1), item(2, 9, 2), item(1, 9, 3)}
	for i, m := range []memo.Memo{
		{Op: 2, Normal: 5, Items: l[:2]},          // less than is committed
		{Op: 8, Normal: 5, Base: 4, Items: l[4:]}, // a gap
		{Op: 3, Normal: 5, Items: falling},
	} {
		for _, kind := range []int{memo.Offer, memo.Start} {
			id, from := 1, 2
			if kind == memo.Start {
				id, from = 2, 1
			}
			x := made(t, id, 3)
			x.Letter(0, said(3, memo.Memo{Kind: memo.Prepare, Items: l[:3], Commit: 3}))
			m.Kind, m.View = kind, 1
			if out := x.Letter(from, said(3, m)); has(t, out, memo.Start) || has(t, out, memo.Ack) {
				t.Errorf("%d: %v", i, opened(t, out))
			}
			if s := x.Stand(); s.Last != 3 || s.Commit != 3 || s.Status == Normal && s.View == 1 {
				t.Errorf("%d: %v", i, s)
			}
		}
	}
}

// Where both logs together are too long for one, what another one has trimmed is trimmed.
func TestRoomForTheBest(t *testing.T) {
	long := func(from, to int) []api.Item {
		var l []api.Item
		for i := from; i < to; i++ {
			l = append(l, api.Item{Client: 9, Req: i + 1, Body: strings.Repeat("x", 3900)})
		}
		return l
	}
	for _, c := range []struct {
		own, best []api.Item
		at        int
	}{{long(0, 10), long(10, 20), 10}, {items(200), items(400)[200:], 200}} {
		x := made(t, 1, 3)
		for from := 0; from < len(c.own); from += 8 {
			to := min(from+8, len(c.own))
			x.Letter(0, said(3, memo.Memo{Kind: memo.Prepare, Op: from, Items: c.own[from:to], Commit: to}))
		}
		last := c.at + len(c.best)
		out := x.Letter(2, said(3, memo.Memo{Kind: memo.Offer, View: 1, Base: c.at, Op: last, Items: c.best, Commit: c.at}))
		if !has(t, out, memo.Start) {
			t.Errorf("%d: no Start", c.at)
		}
		if s := x.Stand(); s.Status != Normal || s.Base != c.at || s.Last != last || !sameItems(x.Items(), c.best) {
			t.Errorf("%d: %v", c.at, s)
		}
	}
}

// What is not done yet is not trimmed for that: there is no room then.
func TestNoRoomForTheBest(t *testing.T) {
	x := made(t, 1, 3)
	l := items(400)
	for from := 0; from < 200; from += 8 {
		x.Letter(0, said(3, memo.Memo{Kind: memo.Prepare, Op: from, Items: l[from : from+8], Commit: 3}))
	}
	out := x.Letter(2, said(3, memo.Memo{Kind: memo.Offer, View: 1, Base: 200, Op: 400, Items: l[200:]}))
	if has(t, out, memo.Start) {
		t.Errorf("%v", opened(t, out))
	}
	if s := holds(t, x, Stand{}, "no room"); s.Status != Changing || s.Last != 200 || s.Commit != 3 || s.Applied != 3 {
		t.Errorf("%v", s)
	}
}

// A new leader counts anew who has what.
func TestNewLeaderCountsAnew(t *testing.T) {
	c := newCluster(t, 3)
	c.ask(0, 3, 1, mk("a"))
	x := c.l[0]
	c.cut = 2
	c.ask(0, 3, 2, mk("b"))
	stands(t, x, Stand{Up: true, Status: Normal, Last: 2, Commit: 2, Applied: 2})
	c.cut = 0
	c.tick(2, 14)
	c.tick(2, 14)
	stands(t, x, Stand{Up: true, Status: Normal, View: 2, Last: 2, Commit: 2, Applied: 2})
	x.Letter(3, request(3, 3, mk("c")))
	if out := x.Letter(2, said(3, memo.Memo{Kind: memo.Ack, View: 2, Op: 2})); len(out) != 0 {
		t.Errorf("%v", opened(t, out))
	}
	if out := x.Letter(2, said(3, memo.Memo{Kind: memo.Ack, View: 2, Op: 3})); len(out) != 1 {
		t.Errorf("%v", opened(t, out))
	}
}

// Acks of an earlier view do not count in a later one that the same node leads.
func TestAcksOfAnEarlierView(t *testing.T) {
	x := made(t, 0, 3)
	for req := range 3 {
		x.Letter(9, request(9, req+1, items(3)[req].Body))
	}
	x.Letter(1, said(3, memo.Memo{Kind: memo.Ack, Op: 3, Commit: 3}))
	x.Letter(2, said(3, memo.Memo{Kind: memo.Ack, Op: 3, Commit: 3}))
	x.Letter(2, said(3, memo.Memo{Kind: memo.Offer, View: 2, Op: 3, Items: items(3)}))
	stands(t, x, Stand{Up: true, Status: Normal, View: 2, Last: 3, Commit: 3, Applied: 3})
	sends(t, x.Tick(), toEach(memo.Memo{Kind: memo.Prepare, View: 2, Commit: 3, Items: items(3)}, 1, 2)...)
	x.Trim()
	if s := x.Stand(); s.Base != 0 {
		t.Errorf("%v", s)
	}
}

// Start and Want.

func TestStart(t *testing.T) {
	for _, changing := range []bool{false, true} {
		for id := range 3 {
			view, from := 3, 1
			if id == 1 {
				view, from = 4, 0
			}
			x := made(t, id, 3)
			if changing {
				x.Letter(from, said(3, memo.Memo{Kind: memo.Prepare, View: view}))
			}
			// Of others nothing.
			for other := range 3 {
				if other != from && other != id {
					sends(t, x.Letter(other, said(3, memo.Memo{Kind: memo.Start, View: view, Op: 4, Commit: 3, Items: items(4)})))
				}
			}
			out := x.Letter(from, said(3, memo.Memo{Kind: memo.Start, View: view, Op: 4, Commit: 3, Items: items(4)}))
			want := Stand{Up: true, Status: Normal, View: view, Last: 4, Commit: 3, Applied: 3}
			if id == 2 {
				want.Applied = 0
			}
			stands(t, x, want)
			sends(t, out, sent{from, memo.Memo{Kind: memo.Ack, View: view, Op: 4, Commit: 3}}) // no client is told
			// Once more: nothing.
			sends(t, x.Letter(from, said(3, memo.Memo{Kind: memo.Start, View: view, Op: 2, Items: items(2)})))
			stands(t, x, want)
		}
	}
}

// A log that was not committed is given up for the leader's.
func TestStartCuts(t *testing.T) {
	x := made(t, 2, 3)
	x.Letter(0, said(3, memo.Memo{Kind: memo.Prepare, Items: items(5), Commit: 2}))
	l := append(items(2), item(1, 8, 1))
	x.Letter(1, said(3, memo.Memo{Kind: memo.Start, View: 1, Op: 3, Commit: 0, Items: l}))
	stands(t, x, Stand{Up: true, Status: Normal, View: 1, Last: 3, Commit: 2})
	if !sameItems(x.Items(), l) {
		t.Errorf("%v", x.Items())
	}
}

func TestWant(t *testing.T) {
	x := lively(t, 0)
	m := memo.Memo{Kind: memo.Start, Op: 2, Commit: 1, Items: x.Items()}
	sends(t, x.Letter(2, said(3, memo.Memo{Kind: memo.Want})), sent{2, m})
	sends(t, x.Letter(1, said(3, memo.Memo{Kind: memo.Want})), sent{1, m})
	ignores(t, func() *Member { return lively(t, 0) }, "a Want of a greater view", 2, said(3, memo.Memo{Kind: memo.Want, View: 2}))
	for id := 1; id < 3; id++ { // of one that does not lead
		for _, view := range []int{0, 1} {
			ignores(t, func() *Member { return lively(t, id) }, "a Want", 0, said(3, memo.Memo{Kind: memo.Want, View: view}))
		}
	}
	changing := func() *Member {
		y := lively(t, 1)
		for range 11 {
			y.Tick()
		}
		return y
	}
	ignores(t, changing, "a Want while changing", 2, said(3, memo.Memo{Kind: memo.Want, View: 1}))
}

// The whole way: the leader is lost, and the next replica leads with what was committed.
func TestNextLeader(t *testing.T) {
	for _, n := range []int{3, 5, 7} {
		c := newCluster(t, n)
		c.ask(0, n, 1, mk("a"))
		c.ask(0, n+1, 1, mk("b"))
		c.crash(0)
		c.tick(1, 11)
		for node := 1; node < n; node++ {
			s := c.l[node].Stand()
			if s.Status != Normal || s.View != 1 || s.Last != 2 {
				t.Errorf("node %d of %d: %v", node, n, s)
			}
		}
		if s := c.l[1].Stand(); s.Commit != 2 || s.Applied != 2 {
			t.Errorf("n %d: %v", n, s)
		}
		// The client of what was not known to be committed is told by the new leader; asked again, it is told the same.
		last := c.told[len(c.told)-1]
		if len(c.told) != 3 || last.to != n+1 || last.m.Op != 1 {
			t.Errorf("n %d: %v", n, c.told)
		}
		c.ask(1, n+1, 1, mk("b"))
		if again := c.told[len(c.told)-1]; again.m.Data != last.m.Data || len(c.told) != 4 {
			t.Errorf("n %d: %v", n, c.told)
		}
		// Those that do not lead say who does.
		c.ask(2, n+2, 1, mk("c"))
		if to, m, _ := c.reply(); to != n+2 || m.Op != 0 || m.View != 1 {
			t.Errorf("n %d: %v", n, m)
		}
	}
}
