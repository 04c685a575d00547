package member

import (
	"math"
	"testing"

	"sexton/api"
	"sexton/memo"
	"sexton/shard"
)

// 24.1, 24.3: letters of strangers, and bytes that are no memo.

// lively is a member of three that has done something: the leader, a replica, the witness.
func lively(t *testing.T, id int) *Member {
	c := newCluster(t, 3)
	c.ask(0, 3, 1, mk("a"))
	c.tick(0, 1)
	c.cut = 6
	c.ask(0, 4, 1, mk("b"))
	return c.l[id]
}

// ignores fails, if a letter does something to a member that build builds.
func ignores(t *testing.T, build func() *Member, what string, from int, text string) {
	t.Helper()
	x := build()
	if out := x.Letter(from, text); len(out) != 0 {
		t.Errorf("%s: %v", what, opened(t, out))
	}
	if !same(x, build()) {
		t.Errorf("%s: it changed", what)
	}
}

func TestStrangers(t *testing.T) {
	for id := range 3 {
		build := func() *Member { return lively(t, id) }
		for _, from := range []int{math.MinInt, -32, -1, id, 32, 33, 63, 64, 1 << 32, math.MaxInt} {
			client := min(max(from, 0), big)
			ignores(t, build, "a request of nobody", from, request(client, 1, mk("c")))
			for kind := memo.Request; kind <= memo.Piece; kind++ {
				ignores(t, build, "a memo of nobody", from, said(3, memo.Memo{Kind: kind, View: 3, Client: client}))
				ignores(t, build, "a memo of nobody", from, said(3, memo.Memo{Kind: kind, Client: client, Lives: []int{7, 7, 7}}))
			}
		}
		for _, text := range []string{"", "x", "\x00\x00\x00\x00", request(3, 2, mk("c"))[1:], request(3, 2, mk("c")) + "x", string(make([]byte, 60001))} {
			for _, from := range []int{0, 1, 2, 3, 31} {
				ignores(t, build, "no memo", from, text)
			}
		}
	}
}

func TestClientsMemos(t *testing.T) {
	for id := range 3 {
		build := func() *Member { return lively(t, id) }
		for _, client := range []int{3, 4, 30, 31} {
			for kind := memo.Told; kind <= memo.Piece; kind++ {
				ignores(t, build, "a client's memo that is no Request", client, said(3, memo.Memo{Kind: kind, View: 4, Client: client, Op: 9}))
			}
			for _, other := range []int{0, id, client - 1, client + 1, 32, big} {
				ignores(t, build, "a Request of another client", client, request(other, 9, mk("c")))
			}
		}
		// A node's Request is no client's, and a Told is not for members.
		for node := range 3 {
			if node == id {
				continue
			}
			for _, client := range []int{node, 3} {
				ignores(t, build, "a node's Request", node, said(3, memo.Memo{Kind: memo.Request, Client: client, Op: 9, Data: mk("c")}))
				ignores(t, build, "a node's Told", node, said(3, memo.Memo{Kind: memo.Told, Client: client, Op: 9, View: 4}))
			}
		}
	}
	// Clients up to 31 are heard.
	for _, client := range []int{3, 31} {
		if out := lively(t, 0).Letter(client, request(client, 9, mk("c"))); len(out) != 2 {
			t.Errorf("client %d: %v", client, opened(t, out))
		}
	}
}

// P6: a letter of which a burst of up to 32 bits was turned does nothing.
func TestTurnedLetters(t *testing.T) {
	build := func() *Member { return lively(t, 1) }
	text := said(3, memo.Memo{Kind: memo.Prepare, Op: 1, Commit: 2, Items: []api.Item{item(0, 4, 1)}})
	if x := build(); len(x.Letter(0, text)) != 1 || x.Stand().Last != 2 {
		t.Fatal("the letter is none")
	}
	was := build()
	x := build()
	for bit := range 8 * len(text) {
		for _, burst := range []uint32{1, 3, 0x80000001, 0xffffffff, 0xdeadbeef} {
			out := x.Letter(0, turned(text, bit, burst))
			if len(out) != 0 || !same(x, was) {
				t.Fatalf("bit %d, burst %x: %v", bit, burst, opened(t, out))
			}
		}
	}
}

// Lives first.

func TestLivesThatAreNone(t *testing.T) {
	for id := range 3 {
		build := func() *Member { return lively(t, id) }
		from := (id + 1) % 3
		for kind := memo.Request; kind <= memo.Piece; kind++ {
			for _, lives := range [][]int{nil, {0}, {9}, {0, 0, 0, 0, 0}, {9, 9, 9, 9, 9}, {0, 0, 0, 0, 0, 0, 0}} {
				ignores(t, build, "lives that are not n", from, pack(memo.Memo{Kind: kind, View: 4, Lives: lives}))
			}
		}
	}
}

func TestOldLives(t *testing.T) {
	for id := range 3 {
		from := (id + 1) % 3
		lives := make([]int, 3)
		lives[from] = 5
		build := func() *Member {
			x := lively(t, id)
			x.Letter(from, said(3, memo.Memo{Kind: memo.Told, Lives: lives})) // it learns of that life
			return x
		}
		old := []int{9, 9, 9}
		old[from] = 4
		old[id] = 0
		for kind := memo.Request; kind <= memo.Piece; kind++ {
			ignores(t, build, "an old life", from, said(3, memo.Memo{Kind: kind, View: 4, Lives: old}))
			ignores(t, build, "an old life", from, said(3, memo.Memo{Kind: kind, View: 4, Lives: []int{0, 0, 0}}))
		}
		x := build()
		if out := x.Letter(from, said(3, memo.Memo{Kind: memo.Change, View: 4, Lives: lives})); len(out) == 0 {
			t.Error("this life does nothing")
		}
	}
}

func TestLivesAreMerged(t *testing.T) {
	x := made(t, 1, 5)
	// What a memo of any kind, also of a lesser view, says of lives is taken.
	x.Letter(0, said(5, memo.Memo{Kind: memo.Change, View: 3, Lives: []int{0, 0, 3, 0, 9}}))
	x.Letter(4, said(5, memo.Memo{Kind: memo.Prepare, View: 1, Lives: []int{0, 0, 2, 8, 9}}))
	x.Letter(4, said(5, memo.Memo{Kind: memo.Told, Lives: []int{6, 0, 0, 0, 8}})) // an old one says nothing
	out := x.Letter(3, said(5, memo.Memo{Kind: memo.Recover, Lives: []int{2, 0, 0, 11, 0}}))
	if len(out) != 0 { // it is changing
		t.Errorf("%v", opened(t, out))
	}
	for range 11 {
		out = x.Tick()
	}
	sends(t, out, toEach(memo.Memo{Kind: memo.Change, View: 4}, 0, 2, 3, 4)...)
	for _, o := range out {
		if m := open(t, o); !sameInts(m.Lives, []int{2, 0, 3, 11, 9}) {
			t.Errorf("lives %v", m.Lives)
		}
	}
}

// Each memo to a node has the vector; those to clients have none.
func TestMemosHaveLives(t *testing.T) {
	learn := memo.Memo{Kind: memo.Told, Lives: []int{0, 0, 4}}
	leader := made(t, 0, 3)
	leader.Letter(2, said(3, learn))
	want := []int{0, 0, 4}
	check := func(what string, out []Out, n int) {
		t.Helper()
		if len(out) != n {
			t.Fatalf("%s: %v", what, opened(t, out))
		}
		for _, o := range out {
			m := open(t, o)
			if o.To < 3 && !sameInts(m.Lives, want) || o.To >= 3 && len(m.Lives) != 0 {
				t.Errorf("%s to %d has %v", what, o.To, m.Lives)
			}
		}
	}
	check("Prepare", leader.Letter(3, request(3, 1, mk("a"))), 2)
	check("Prepare", leader.Tick(), 2)
	check("Told", leader.Letter(1, said(3, memo.Memo{Kind: memo.Ack, Op: 1, Lives: want})), 1)
	check("Told again", leader.Letter(3, request(3, 1, mk("a"))), 1)
	check("Start", leader.Letter(1, said(3, memo.Memo{Kind: memo.Want, Lives: want})), 1)
	check("Inform", leader.Letter(2, said(3, memo.Memo{Kind: memo.Recover, Lives: want})), 1)
	check("Change and Offer", leader.Letter(2, said(3, memo.Memo{Kind: memo.Change, View: 1, Lives: want})), 3)
	follower := made(t, 1, 3)
	follower.Letter(2, said(3, learn))
	check("Told", follower.Letter(3, request(3, 1, mk("a"))), 1)
	check("Ack", follower.Letter(0, said(3, memo.Memo{Kind: memo.Prepare})), 1)
	check("Inform", follower.Letter(2, said(3, memo.Memo{Kind: memo.Recover, Lives: want})), 1)
	check("Want", follower.Letter(0, said(3, memo.Memo{Kind: memo.Prepare, View: 2})), 1)
}

func TestAcksAreForgotten(t *testing.T) {
	x := made(t, 0, 5)
	x.Letter(9, request(9, 1, mk("a")))
	x.Letter(1, said(5, memo.Memo{Kind: memo.Ack, Op: 1}))
	// Node 1 has forgotten that: of two that acked, one does not count.
	x.Letter(3, said(5, memo.Memo{Kind: memo.Ack, Lives: []int{0, 6, 0, 0, 0}}))
	if out := x.Letter(2, said(5, memo.Memo{Kind: memo.Ack, Op: 1})); len(out) != 0 || x.Stand().Commit != 0 {
		t.Errorf("%v, %v", opened(t, out), x.Stand())
	}
	out := x.Tick()
	if m := open(t, out[0]); m.Op != 0 || len(m.Items) != 1 {
		t.Errorf("node 1 is not sent what it has forgotten: %v", m)
	}
	if m := open(t, out[1]); m.Op != 1 || len(m.Items) != 0 {
		t.Errorf("node 2 is sent what it has: %v", m)
	}
	// In its new life it counts again.
	if out := x.Letter(1, said(5, memo.Memo{Kind: memo.Ack, Op: 1, Lives: []int{0, 6, 0, 0, 0}})); len(out) != 1 || x.Stand().Commit != 1 {
		t.Errorf("%v, %v", opened(t, out), x.Stand())
	}
}

func TestWhatWasAppliedIsForgotten(t *testing.T) {
	c := newCluster(t, 3)
	c.ask(0, 3, 1, mk("a"))
	c.tick(0, 1)
	x := c.l[0]
	x.Letter(1, said(3, memo.Memo{Kind: memo.Told, Lives: []int{0, 0, 5}}))
	x.Trim()
	if s := x.Stand(); s.Base != 0 || s.Low != 0 {
		t.Errorf("%v", s)
	}
	x.Letter(2, said(3, memo.Memo{Kind: memo.Ack, Op: 1, Commit: 1, Lives: []int{0, 0, 5}}))
	x.Trim()
	if s := x.Stand(); s.Base != 1 || s.Low != 1 {
		t.Errorf("%v", s)
	}
}

func TestVotesAreForgotten(t *testing.T) {
	// Node 4 changed to view 1 in an earlier life: it is one of three no longer.
	x := made(t, 2, 5)
	x.Letter(4, said(5, memo.Memo{Kind: memo.Change, View: 1}))
	out := x.Letter(3, said(5, memo.Memo{Kind: memo.Change, View: 1, Lives: []int{0, 0, 0, 0, 8}}))
	sends(t, out)
	out = x.Letter(4, said(5, memo.Memo{Kind: memo.Change, View: 1})) // and does not count when it comes again
	sends(t, out)
	out = x.Letter(0, said(5, memo.Memo{Kind: memo.Change, View: 1}))
	sends(t, out, sent{1, memo.Memo{Kind: memo.Offer, View: 1}})
}

func TestOffersAreForgotten(t *testing.T) {
	// Node 4's offer of an earlier life, which comes late, ahead of and behind one who knows of its new one.
	late := said(5, memo.Memo{Kind: memo.Offer, View: 1})
	knows := said(5, memo.Memo{Kind: memo.Offer, View: 1, Lives: []int{0, 0, 0, 0, 8}})
	anew := said(5, memo.Memo{Kind: memo.Offer, View: 1, Op: 2, Items: items(2), Commit: 1, Lives: []int{0, 0, 0, 0, 8}})
	for _, order := range [][]mail{{{4, 1, late}, {2, 1, knows}}, {{2, 1, knows}, {4, 1, late}}} {
		x := made(t, 1, 5)
		for _, from := range []int{0, 3} { // there are enough that change
			x.Letter(from, said(5, memo.Memo{Kind: memo.Change, View: 1}))
		}
		for _, y := range order {
			if out := x.Letter(y.from, y.text); has(t, out, memo.Start) {
				t.Errorf("it leads: %v", opened(t, out))
			}
		}
		if s := x.Stand(); s.Status != Changing || s.View != 1 {
			t.Errorf("%v", s)
		}
		if out := x.Letter(4, anew); !has(t, out, memo.Start) {
			t.Errorf("it does not lead: %v", opened(t, out))
		}
		stands(t, x, Stand{Up: true, Status: Normal, View: 1, Last: 2, Commit: 1, Applied: 1})
	}
}

func TestInformsAreForgotten(t *testing.T) {
	x := started(t, 4, 5, 3)
	lives := []int{0, 0, 0, 0, 3}
	x.Letter(1, said(5, memo.Memo{Kind: memo.Inform, Lives: lives}))
	x.Letter(0, said(5, memo.Memo{Kind: memo.Inform, Op: 2, Items: items(2), Lives: lives}))
	// Node 1 began another life since: what it told counts no longer.
	x.Letter(2, said(5, memo.Memo{Kind: memo.Inform, Lives: []int{0, 7, 0, 0, 3}}))
	stands(t, x, Stand{Up: true, Status: Recovering})
	x.Letter(3, said(5, memo.Memo{Kind: memo.Inform, Lives: lives}))
	stands(t, x, Stand{Up: true, Status: Normal, Last: 2})
}

// What the lives are for: a vote, an offer and an ack of lives that are over must not make enough of too few.
func TestEarlierLives(t *testing.T) {
	c := newCluster(t, 5)
	var late []mail // what is on its way for long
	// Nodes 2, 3 and 4 change to view 1, one behind the other; each crashes, and is told by the others of view 0.
	for i, node := range []int{2, 3} {
		for range 8 + 3*node {
			for _, o := range c.l[node].Tick() {
				late = append(late, mail{node, o.To, o.Text})
			}
		}
		if s := c.l[node].Stand(); s.View != 1 || s.Status != Changing {
			t.Fatalf("%v", s)
		}
		c.crash(node)
		c.cut = 1 << 4 // node 4 does not hear of it
		c.start(node, i+1)
		c.cut = 0
		if s := c.l[node].Stand(); s.View != 0 || s.Status != Normal {
			t.Fatalf("%d: %v", node, s)
		}
	}
	for range 8 + 3*4 {
		for _, o := range c.l[4].Tick() {
			late = append(late, mail{4, o.To, o.Text})
		}
	}
	for _, y := range late {
		if y.to == 4 {
			for _, o := range c.l[4].Letter(y.from, y.text) {
				late = append(late, mail{4, o.To, o.Text})
			}
		}
	}
	c.crash(4)
	c.cut = 1 << 1 // node 1, the next primary, does not hear of it
	c.start(4, 9)
	if s := c.l[4].Stand(); s.View != 0 || s.Status != Normal {
		t.Fatalf("%v", s)
	}
	// Nodes 0, 3 and 4 commit an operation.
	c.cut = 1<<1 | 1<<2
	c.ask(0, 5, 1, mk("a"))
	c.tick(0, 1)
	if s := c.l[0].Stand(); s.Commit != 1 {
		t.Fatalf("%v", s)
	}
	// Node 0 is lost; what was late comes to nodes 1 and 2, who go to view 1.
	c.cut = 1<<0 | 1<<3 | 1<<4
	c.tick(1, 11)
	for _, y := range late {
		if y.to == 1 || y.to == 2 {
			c.send(y.to, c.l[y.to].Letter(y.from, y.text))
			c.run()
		}
	}
	if s := c.l[1].Stand(); s.Status == Normal && s.View > 0 && s.Last == 0 {
		t.Errorf("it leads without what was committed: %v", s)
	}
	c.cut = 1 << 0
	for range 40 {
		for node := 1; node < 5; node++ {
			c.tick(node, 1)
		}
	}
	s := c.l[1].Stand()
	if s.Last != 1 || s.Commit != 1 {
		t.Errorf("it is lost: %v", s)
	}
}

// Memos of a lesser view do nothing (but Recover, Inform, Fetch, Piece).
func TestLesserViews(t *testing.T) {
	build := func() *Member {
		x := made(t, 1, 3) // it leads view 3
		x.Letter(2, said(3, memo.Memo{Kind: memo.Offer, View: 3}))
		x.Letter(3, request(3, 1, mk("a")))
		return x
	}
	stands(t, build(), Stand{Up: true, Status: Normal, View: 3, Last: 1})
	for _, view := range []int{0, 1, 2} {
		for _, kind := range []int{memo.Prepare, memo.Ack, memo.Change, memo.Offer, memo.Start, memo.Want} {
			for _, from := range []int{0, 2} {
				m := memo.Memo{Kind: kind, View: view, Op: 1, Commit: 1, Normal: 9, Items: []api.Item{item(0, 4, 4)}}
				ignores(t, build, "a lesser view", from, said(3, m))
			}
		}
		if out := build().Letter(2, said(3, memo.Memo{Kind: memo.Recover, View: view})); len(out) != 1 {
			t.Errorf("Recover: %v", opened(t, out))
		}
		if out := build().Letter(3, request(3, 2, mk("b"))); len(out) != 2 {
			t.Errorf("Request: %v", opened(t, out))
		}
	}
	x := build()
	x.Letter(2, said(3, memo.Memo{Kind: memo.Ack, View: 3, Op: 1, Commit: 1}))
	x.Letter(0, said(3, memo.Memo{Kind: memo.Ack, View: 3, Op: 1, Commit: 1}))
	x.Trim()
	out := x.Letter(2, said(3, memo.Memo{Kind: memo.Recover, Lives: []int{0, 0, 1}}))
	if m := open(t, out[0]); m.Man == (shard.Manifest{}) {
		t.Errorf("no manifest: %v", m)
	}
	if out := x.Letter(2, said(3, memo.Memo{Kind: memo.Fetch, View: 0, Op: 1, Lives: []int{0, 0, 1}})); len(out) != 1 {
		t.Errorf("Fetch: %v", opened(t, out))
	}
}

// One that recovers takes no part in anything else.
func TestRecoveringHearsNothingElse(t *testing.T) {
	for id := range 3 {
		build := func() *Member { return started(t, id, 3, 5) }
		lives := []int{0, 0, 0}
		lives[id] = 5
		for _, client := range []int{3, 31} {
			ignores(t, build, "a Request", client, request(client, 1, mk("a")))
		}
		for _, kind := range []int{memo.Prepare, memo.Ack, memo.Change, memo.Offer, memo.Start, memo.Want, memo.Recover, memo.Fetch, memo.Piece} {
			for from := range 3 {
				for _, view := range []int{0, 1, 2, 3} {
					if from != id {
						ignores(t, build, "a node's memo", from, said(3, memo.Memo{Kind: kind, View: view, Op: 1, Commit: 1, Items: items(1), Lives: lives}))
					}
				}
			}
		}
		x := build()
		for range 60 {
			sends(t, x.Tick(), toEach(memo.Memo{Kind: memo.Recover}, x.others()...)...)
		}
		if out := x.Trim(); len(out) != 0 {
			t.Errorf("Trim: %v", opened(t, out))
		}
		stands(t, x, Stand{Up: true, Status: Recovering})
	}
}
