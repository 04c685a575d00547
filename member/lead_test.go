package member

import (
	"strings"
	"testing"

	"sexton/api"
	"sexton/mach"
	"sexton/memo"
	"sexton/oplog"
)

// Request.

func TestRequestAtOneThatDoesNotLead(t *testing.T) {
	for _, n := range []int{3, 5, 7} {
		for id := 1; id < n; id++ {
			x := made(t, id, n)
			for _, data := range []string{"", mk("a"), strings.Repeat("x", 4097)} {
				for _, req := range []int{0, 1, big} {
					out := x.Letter(31, request(31, req, data))
					sends(t, out, sent{31, memo.Memo{Kind: memo.Told, Client: 31}})
				}
			}
			x.Letter((id+1)%n, said(n, memo.Memo{Kind: memo.Change, View: 900})) // while changing, too
			sends(t, x.Letter(n, request(n, 1, mk("a"))), sent{n, memo.Memo{Kind: memo.Told, Client: n, View: 900}})
			if len(x.Items()) != 0 {
				t.Error("it took it")
			}
		}
	}
	// The primary of a view that has not begun does not lead it.
	x := made(t, 1, 3)
	for range 11 {
		x.Tick()
	}
	sends(t, x.Letter(3, request(3, 1, mk("a"))), sent{3, memo.Memo{Kind: memo.Told, Client: 3, View: 1}})
}

func TestRequestThatIsNew(t *testing.T) {
	for _, n := range []int{3, 5, 7} {
		x := made(t, 0, n)
		a := api.Item{Client: n, Req: 1, Body: mk("a")}
		out := x.Letter(n, request(n, 1, mk("a")))
		sends(t, out, toEach(memo.Memo{Kind: memo.Prepare, Items: []api.Item{a}}, x.others()...)...)
		stands(t, x, Stand{Up: true, Status: Normal, Last: 1})
		b := api.Item{Client: 31, Req: big, Body: ""}
		out = x.Letter(31, request(31, big, ""))
		sends(t, out, toEach(memo.Memo{Kind: memo.Prepare, Items: []api.Item{a, b}}, x.others()...)...)
		stands(t, x, Stand{Up: true, Status: Normal, Last: 2})
		if l := x.Items(); len(l) != 2 || l[0] != a || l[1] != b {
			t.Errorf("%v", l)
		}
	}
}

func TestItemsHaveTheView(t *testing.T) {
	x := made(t, 1, 3)
	x.Letter(2, said(3, memo.Memo{Kind: memo.Offer, View: 3, Op: 1, Items: items(1)}))
	x.Letter(3, request(3, 1, mk("a")))
	if l := x.Items(); len(l) != 2 || l[0].View != 0 || l[1].View != 3 {
		t.Errorf("%v", l)
	}
}

func TestRequestThatIsKnown(t *testing.T) {
	c := newCluster(t, 3)
	c.ask(0, 3, 5, mk("a"))
	to, m, r := c.reply()
	if to != 3 || m.Op != 5 || m.Client != 3 || r.E != api.OK || r.H != (api.Handle{No: 1, Gen: 1}) {
		t.Errorf("%d, %v, %v", to, m, r)
	}
	x := c.l[0]
	was := x.Stand()
	sends(t, x.Letter(3, request(3, 5, mk("other"))), sent{3, m}) // the same reply, whatever it says now
	sends(t, x.Letter(3, request(3, 4, mk("b"))))                 // past
	sends(t, x.Letter(3, request(3, 0, mk("b"))))
	stands(t, x, was)
	// A later one is under way: the last reply is told still, the later one is not taken twice.
	if out := x.Letter(3, request(3, 7, mk("b"))); len(out) != 2 {
		t.Errorf("%v", opened(t, out))
	}
	sends(t, x.Letter(3, request(3, 5, mk("a"))), sent{3, m})
	for _, req := range []int{7, 6, 4} {
		sends(t, x.Letter(3, request(3, req, mk("b"))))
	}
	if out := x.Letter(4, request(4, 7, mk("b"))); len(out) != 2 { // another client's
		t.Errorf("%v", opened(t, out))
	}
	if out := x.Letter(3, request(3, 8, mk("b"))); len(out) != 2 {
		t.Errorf("%v", opened(t, out))
	}
	if s := x.Stand(); s.Last != 4 || s.Commit != 1 {
		t.Errorf("%v", s)
	}
}

// What was done is known when the log has it no longer.
func TestRequestBehindTrim(t *testing.T) {
	x := made(t, 0, 1)
	first := x.Letter(1, request(1, 2, mk("a")))
	x.Trim()
	stands(t, x, Stand{Up: true, Status: Normal, Base: 1, Last: 1, Commit: 1, Applied: 1, Low: 1})
	again := x.Letter(1, request(1, 2, mk("a")))
	if len(first) != 1 || len(again) != 1 || first[0] != again[0] {
		t.Errorf("%v, %v", opened(t, first), opened(t, again))
	}
	sends(t, x.Letter(1, request(1, 1, mk("a"))))
	if s := x.Stand(); s.Last != 1 {
		t.Errorf("%v", s)
	}
}

func TestRequestOfWrongItems(t *testing.T) {
	x := made(t, 0, 3)
	sends(t, x.Letter(3, request(3, 0, mk("a"))))
	sends(t, x.Letter(3, request(3, 1, strings.Repeat("x", 4097))))
	sends(t, x.Letter(3, request(3, 1, strings.Repeat("x", 8192))))
	stands(t, x, Stand{Up: true, Status: Normal})
	if out := x.Letter(3, request(3, 1, strings.Repeat("x", 4096))); len(out) != 2 {
		t.Errorf("%v", opened(t, out))
	}
	stands(t, x, Stand{Up: true, Status: Normal, Last: 1})
}

func TestLogFullOfItems(t *testing.T) {
	x := made(t, 0, 3)
	for req := range oplog.MaxItems {
		if out := x.Letter(3, request(3, req+1, "")); len(out) != 2 {
			t.Fatalf("request %d: %v", req+1, opened(t, out))
		}
	}
	for range 3 {
		sends(t, x.Letter(3, request(3, 1000, "")))
	}
	stands(t, x, Stand{Up: true, Status: Normal, Last: 256})
	// What is trimmed makes room.
	x.Letter(1, said(3, memo.Memo{Kind: memo.Ack, Op: 256, Commit: 256}))
	x.Letter(2, said(3, memo.Memo{Kind: memo.Ack, Op: 256, Commit: 9}))
	x.Trim()
	for req := range 9 {
		if out := x.Letter(3, request(3, 1000+req, "")); len(out) != 2 {
			t.Fatalf("request %d: %v", req+1, opened(t, out))
		}
	}
	sends(t, x.Letter(3, request(3, 2000, "")))
	stands(t, x, Stand{Up: true, Status: Normal, Base: 9, Last: 265, Commit: 256, Applied: 256, Low: 9})
}

func TestLogFullOfBytes(t *testing.T) {
	// 9 items of 24 + 4096 are 37080; the room that is left is 2920.
	for _, c := range []struct {
		bytes int
		fits  bool
	}{{2920 - 24, true}, {2920 - 23, false}, {4096, false}, {0, true}} {
		x := made(t, 0, 3)
		for req := range 9 {
			x.Letter(3, request(3, req+1, strings.Repeat("x", 4096)))
		}
		stands(t, x, Stand{Up: true, Status: Normal, Last: 9})
		out := x.Letter(3, request(3, 10, strings.Repeat("x", c.bytes)))
		if (len(out) == 2) != c.fits || (x.Stand().Last == 10) != c.fits {
			t.Errorf("%d bytes: %v, %v", c.bytes, len(out), x.Stand())
		}
		if c.bytes == 2920-24 {
			sends(t, x.Letter(3, request(3, 11, "")))
		}
		// All of it goes into one memo.
		out = x.Letter(1, said(3, memo.Memo{Kind: memo.Want}))
		if len(out) != 1 || len(open(t, out[0]).Items) != x.Stand().Last {
			t.Errorf("%d bytes: no Start", c.bytes)
		}
	}
}

// Tick of the leader.

func TestPrepares(t *testing.T) {
	x := made(t, 0, 3)
	sends(t, x.Tick(), toEach(memo.Memo{Kind: memo.Prepare}, 1, 2)...)
	for req := range 20 {
		x.Letter(9, request(9, req+1, items(20)[req].Body))
	}
	l := items(20)
	sends(t, x.Tick(), toEach(memo.Memo{Kind: memo.Prepare, Items: l[:8]}, 1, 2)...)
	x.Letter(1, said(3, memo.Memo{Kind: memo.Ack, Op: 8, Commit: 3}))
	sends(t, x.Tick(),
		sent{1, memo.Memo{Kind: memo.Prepare, Op: 8, Commit: 8, Items: l[8:16]}},
		sent{2, memo.Memo{Kind: memo.Prepare, Commit: 8, Items: l[:8]}})
	x.Letter(2, said(3, memo.Memo{Kind: memo.Ack, Op: 5, Commit: 4}))
	x.Letter(1, said(3, memo.Memo{Kind: memo.Ack, Op: 20, Commit: 8}))
	x.Letter(1, said(3, memo.Memo{Kind: memo.Ack, Op: 16, Commit: 7})) // an earlier one that comes late
	if out := x.Trim(); len(out) != 0 {
		t.Errorf("Trim: %v", opened(t, out))
	}
	sends(t, x.Tick(),
		sent{1, memo.Memo{Kind: memo.Prepare, Op: 20, Commit: 20, Low: 4}},
		sent{2, memo.Memo{Kind: memo.Prepare, Op: 5, Commit: 20, Low: 4, Items: l[5:13]}})
	// Of one that is not known to have what was trimmed the Base counts.
	x.Letter(1, said(3, memo.Memo{Kind: memo.Told, Lives: []int{0, 0, 1}}))
	sends(t, x.Tick(),
		sent{1, memo.Memo{Kind: memo.Prepare, Op: 20, Commit: 20, Low: 4}},
		sent{2, memo.Memo{Kind: memo.Prepare, Op: 4, Commit: 20, Low: 4, Items: l[4:12]}})
	if s := made(t, 0, 1); len(s.Tick()) != 0 {
		t.Error("a single member sends something")
	}
}

func TestLeaderNeverChangesByItself(t *testing.T) {
	for _, n := range []int{1, 3, 5, 7} {
		x := made(t, 0, n)
		for range 100 {
			if out := x.Tick(); len(out) != n-1 || has(t, out, memo.Change) {
				t.Fatalf("%v", opened(t, out))
			}
		}
		stands(t, x, Stand{Up: true, Status: Normal})
	}
}

// Prepare.

func TestPrepareOfOthers(t *testing.T) {
	for id := 1; id < 5; id++ {
		build := func() *Member { return made(t, id, 5) }
		for from := 1; from < 5; from++ {
			if from != id {
				ignores(t, build, "a Prepare of one that is not the primary", from, said(5, memo.Memo{Kind: memo.Prepare, Items: items(2), Commit: 2}))
				ignores(t, build, "a Prepare of one that is not the primary", from, said(5, memo.Memo{Kind: memo.Prepare, View: 3, Items: items(2), Commit: 2}))
			}
		}
	}
	leader := func() *Member { return made(t, 0, 3) }
	ignores(t, leader, "a Prepare to the primary", 1, said(3, memo.Memo{Kind: memo.Prepare, Items: items(2)}))
}

func TestPrepareOfItems(t *testing.T) {
	l := items(12)
	for id := 1; id < 3; id++ {
		x := made(t, id, 3)
		applied := func(n int) int { // of a witness none
			if id == 2 {
				return 0
			}
			return n
		}
		step := func(what string, op, from, to, commit int, want Stand) {
			t.Helper()
			out := x.Letter(0, said(3, memo.Memo{Kind: memo.Prepare, Op: op, Items: l[from:to], Commit: commit}))
			want.Up, want.Status, want.Applied = true, Normal, applied(want.Commit)
			t.Log(what)
			stands(t, x, want)
			sends(t, out, sent{0, memo.Memo{Kind: memo.Ack, Op: want.Last, Commit: want.Commit}})
			for i, y := range x.Items() {
				if y != l[i] {
					t.Errorf("%s: item %d is %v", what, i+1, y)
				}
			}
		}
		step("none", 0, 0, 0, 0, Stand{})
		step("a gap", 1, 1, 3, 3, Stand{})
		step("the first", 0, 0, 2, 0, Stand{Last: 2})
		step("the same again", 0, 0, 2, 0, Stand{Last: 2})
		step("some that it has, some that follow", 1, 1, 5, 3, Stand{Last: 5, Commit: 3})
		step("some that it has", 0, 0, 3, 0, Stand{Last: 5, Commit: 3})
		step("a gap, and what is committed", 7, 7, 9, 4, Stand{Last: 5, Commit: 4})
		step("more is committed than it has", 5, 5, 6, 11, Stand{Last: 6, Commit: 6})
		step("none, but the last number", 6, 0, 0, 0, Stand{Last: 6, Commit: 6})
		step("all", 0, 0, 12, 12, Stand{Last: 12, Commit: 12})
		if id == 1 {
			s, _, _ := mach.Run(mach.New(), l)
			if !sameState(s, x.State()) {
				t.Errorf("another state: %v", x.State())
			}
		} else if !isZero(x.State()) {
			t.Error("a witness has a state")
		}
	}
}

func TestPrepareTrims(t *testing.T) {
	l := items(6)
	for id := 1; id < 3; id++ {
		x := made(t, id, 3)
		base := func(low, commit int) int {
			x.Letter(0, said(3, memo.Memo{Kind: memo.Prepare, Items: l, Commit: commit, Low: low}))
			return x.Stand().Base
		}
		for _, c := range [][3]int{{0, 0, 0}, {3, 2, 2}, {3, 2, 2}, {0, 4, 2}, {3, 4, 3}, {1, 4, 3}, {big, 5, 5}, {6, 9, 6}} {
			if got := base(c[0], c[1]); got != c[2] {
				t.Errorf("node %d, Low %d, Commit %d: Base %d, want %d", id, c[0], c[1], got, c[2])
			}
		}
		if len(x.Items()) != 0 || x.Stand().Last != 6 {
			t.Errorf("%v", x.Stand())
		}
		// It goes on behind what is trimmed.
		x.Letter(0, said(3, memo.Memo{Kind: memo.Prepare, Op: 4, Items: items(8)[4:]}))
		if got := x.Items(); len(got) != 2 || got[0] != items(8)[6] {
			t.Errorf("%v", got)
		}
	}
}

// A log that is full takes no more, till it is trimmed.
func TestPrepareOfAFullLog(t *testing.T) {
	l := items(260)
	x := made(t, 1, 3)
	for from := 0; from < 256; from += 64 {
		x.Letter(0, said(3, memo.Memo{Kind: memo.Prepare, Op: from, Items: l[from : from+64], Commit: from}))
	}
	out := x.Letter(0, said(3, memo.Memo{Kind: memo.Prepare, Op: 250, Items: l[250:], Commit: 256, Low: 4}))
	sends(t, out, sent{0, memo.Memo{Kind: memo.Ack, Op: 256, Commit: 256}})
	out = x.Letter(0, said(3, memo.Memo{Kind: memo.Prepare, Op: 256, Items: l[256:], Commit: 256, Low: 4}))
	sends(t, out, sent{0, memo.Memo{Kind: memo.Ack, Op: 260, Commit: 256}})
	stands(t, x, Stand{Up: true, Status: Normal, Base: 4, Last: 260, Commit: 256, Applied: 256, Low: 4})
}

func TestPrepareOfAGreaterView(t *testing.T) {
	for id := range 3 {
		view, from := 3, 1 // whose primary is node 1
		if id == 1 {
			view, from = 4, 0
		}
		x := made(t, id, 3)
		out := x.Letter(from, said(3, memo.Memo{Kind: memo.Prepare, View: view, Items: items(2), Commit: 2}))
		sends(t, out, sent{from, memo.Memo{Kind: memo.Want, View: view}})
		stands(t, x, Stand{Up: true, Status: Changing, View: view})
		// And while it is changing.
		out = x.Letter(from, said(3, memo.Memo{Kind: memo.Prepare, View: view, Items: items(2), Commit: 2}))
		sends(t, out, sent{from, memo.Memo{Kind: memo.Want, View: view}})
		stands(t, x, Stand{Up: true, Status: Changing, View: view})
	}
}

// Ack.

func TestAckCounts(t *testing.T) {
	for _, n := range []int{3, 5, 7} {
		x := made(t, 0, n)
		x.Letter(n, request(n, 1, mk("a")))
		x.Letter(n+1, request(n+1, 1, mk("b")))
		f := n / 2
		ack := func(from, op int) []Out {
			return x.Letter(from, said(n, memo.Memo{Kind: memo.Ack, Op: op}))
		}
		for node := range f - 1 {
			sends(t, ack(n-1-node, 1))
			sends(t, ack(n-1-node, 2))
			sends(t, ack(n-1-node, 2)) // one counts once
		}
		stands(t, x, Stand{Up: true, Status: Normal, Last: 2})
		out := ack(1, 1)
		if len(out) != 1 || out[0].To != n || open(t, out[0]).Op != 1 {
			t.Errorf("%v", opened(t, out))
		}
		stands(t, x, Stand{Up: true, Status: Normal, Last: 2, Commit: 1, Applied: 1})
		out = ack(1, 2)
		if len(out) != 1 || out[0].To != n+1 {
			t.Errorf("%v", opened(t, out))
		}
		for node := 1; node < n; node++ {
			sends(t, ack(node, 0))
			sends(t, ack(node, 2))
			sends(t, ack(node, 9)) // what it has not said cannot be acked
		}
		stands(t, x, Stand{Up: true, Status: Normal, Last: 2, Commit: 2, Applied: 2})
		x.Letter(n, request(n, 2, mk("c")))
		stands(t, x, Stand{Up: true, Status: Normal, Last: 3, Commit: 2, Applied: 2})
	}
}

func TestAckTellsAll(t *testing.T) {
	x := made(t, 0, 3)
	for client := 3; client < 6; client++ {
		x.Letter(client, request(client, client, mk("a")))
	}
	out := x.Letter(2, said(3, memo.Memo{Kind: memo.Ack, Op: 3}))
	if len(out) != 3 {
		t.Fatalf("%v", opened(t, out))
	}
	for i, o := range out {
		if m := open(t, o); o.To != 3+i || m.Kind != memo.Told || m.Client != 3+i || m.Op != 3+i || len(m.Lives) != 0 {
			t.Errorf("%d: %v", o.To, m)
		}
	}
}

func TestAckElsewhere(t *testing.T) {
	for _, view := range []int{0, 1, 2} {
		text := said(3, memo.Memo{Kind: memo.Ack, View: view, Op: 1, Commit: 1})
		ignores(t, func() *Member { return lively(t, 1) }, "an Ack", 2, text)
		ignores(t, func() *Member { return lively(t, 2) }, "an Ack", 1, text)
	}
	for _, view := range []int{1, 2, big} {
		text := said(3, memo.Memo{Kind: memo.Ack, View: view, Op: 2, Commit: 1})
		ignores(t, func() *Member { return lively(t, 0) }, "an Ack of a greater view", 1, text)
	}
}

// Only clients are told.
func TestItemsOfNobody(t *testing.T) {
	l := []api.Item{item(0, 0, 1), item(0, 2, 1), item(0, 32, 1), item(0, big, 1), item(0, 3, 1), item(0, 31, 1)}
	x := made(t, 1, 3)
	out := x.Letter(0, said(3, memo.Memo{Kind: memo.Offer, View: 1, Op: 6, Items: l, Commit: 6}))
	var told []int
	for _, o := range out {
		if open(t, o).Kind == memo.Told {
			told = append(told, o.To)
		}
	}
	if !sameInts(told, []int{3, 31}) || x.Stand().Applied != 6 {
		t.Errorf("%v, %v", told, x.Stand())
	}
}

// Trim.

func TestTrim(t *testing.T) {
	x := made(t, 0, 3)
	trimmed := func(want int) {
		t.Helper()
		if out := x.Trim(); len(out) != 0 {
			t.Errorf("%v", opened(t, out))
		}
		if s := x.Stand(); s.Low != want || s.Base != want {
			t.Errorf("%v, want %d", s, want)
		}
	}
	trimmed(0)
	for req := range 9 {
		x.Letter(3, request(3, req+1, ""))
	}
	trimmed(0)
	ack := func(from, op, done int) {
		x.Letter(from, said(3, memo.Memo{Kind: memo.Ack, Op: op, Commit: done}))
	}
	ack(1, 5, 5)
	trimmed(0) // node 2 has said nothing yet
	ack(2, 5, 3)
	trimmed(3)
	ack(2, 5, 2) // late
	trimmed(3)
	ack(2, 9, 9)
	trimmed(5)
	ack(1, 9, 99) // no more than its own
	trimmed(9)
	if s := x.Stand(); s.Last != 9 || len(x.Items()) != 0 {
		t.Errorf("%v", s)
	}
	x.Letter(3, request(3, 90, "")) // it is not applied yet
	ack(1, 9, 10)
	ack(2, 9, 10)
	trimmed(9)
	ack(1, 10, 10)
	x.Letter(2, said(3, memo.Memo{Kind: memo.Change, View: 1}))
	if s := x.Stand(); s.Applied != 10 || s.Status != Changing {
		t.Errorf("%v", s)
	}
	trimmed(9)                  // it leads no longer
	for id := 1; id < 3; id++ { // not of others
		y := lively(t, id)
		if out := y.Trim(); len(out) != 0 || !same(y, lively(t, id)) {
			t.Errorf("%d: %v", id, opened(t, out))
		}
	}
}

// What a leader that recovered was told as trimmed the others may trim, too.
func TestTrimmedWhenTold(t *testing.T) {
	c := newCluster(t, 3)
	c.ask(0, 3, 1, mk("a"))
	c.tick(0, 1)
	c.l[0].Trim()
	c.crash(1)
	c.start(1, 4)
	c.tick(1, 1)
	c.crash(0)
	c.tick(1, 11)
	stands(t, c.l[1], Stand{Up: true, Status: Normal, View: 1, Base: 1, Last: 1, Commit: 1, Applied: 1})
	c.tick(1, 1)
	if s := c.l[2].Stand(); s.Base != 1 {
		t.Errorf("%v", s)
	}
}
