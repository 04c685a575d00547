package member

import (
	"strings"
	"testing"

	"sexton/api"
	"sexton/mach"
	"sexton/memo"
	"sexton/poly"
	"sexton/shard"
	"sexton/shot"
)

// Recover.

func TestRecoverAtNormalOnes(t *testing.T) {
	lives := []int{0, 0, 4}
	text := said(3, memo.Memo{Kind: memo.Recover, Lives: lives})
	x := lively(t, 0)
	sends(t, x.Letter(2, text), sent{2, memo.Memo{Kind: memo.Inform, Op: 2, Commit: 1, Items: x.Items()}})
	y := lively(t, 1)
	sends(t, y.Letter(2, text), sent{2, memo.Memo{Kind: memo.Inform}}) // of the leader alone the rest
	y.Letter(0, said(3, memo.Memo{Kind: memo.Change, View: 4}))
	sends(t, y.Letter(2, text)) // it is changing
	y.Letter(0, said(3, memo.Memo{Kind: memo.Start, View: 4, Op: 1, Items: y.Items()}))
	out := y.Letter(2, text)
	sends(t, out, sent{2, memo.Memo{Kind: memo.Inform, View: 4}})
	if m := open(t, out[0]); !sameInts(m.Lives, lives) {
		t.Errorf("%v", m.Lives)
	}
}

func TestManifest(t *testing.T) {
	x := trimmedLeader(t)
	text, _ := shot.Pack(x.State())
	man, pieces, _ := shard.Split(6, text)
	m := memo.Memo{Kind: memo.Inform, Op: 6, Commit: 6, Base: 4, Items: x.Items(), Man: man}
	lives := []int{0, 0, 4}
	sends(t, x.Letter(2, said(3, memo.Memo{Kind: memo.Recover, Lives: lives})), sent{2, m})
	if len(pieces) < 3 {
		t.Fatalf("%d pieces", len(pieces))
	}
	fetch := func(from, op, number int) []Out {
		return x.Letter(from, said(3, memo.Memo{Kind: memo.Fetch, Op: op, Number: number, Lives: lives}))
	}
	piece := func(i int) memo.Memo {
		return memo.Memo{Kind: memo.Piece, Op: 6, Number: i, Data: pieces[i].Data, Normal: pieces[i].Sum}
	}
	for i := range pieces {
		sends(t, fetch(2, 6, i), sent{2, piece(i)})
		sends(t, fetch(2, 6, i), sent{2, piece(i)})
	}
	for _, c := range [][2]int{{6, len(pieces)}, {6, 65535}, {5, 0}, {7, 0}, {0, 0}} {
		sends(t, fetch(2, c[0], c[1]))
	}
	// It is kept, whatever happens to the state meanwhile, and though another node asks.
	x.Letter(3, request(3, 90, mk("new")))
	x.Letter(2, said(3, memo.Memo{Kind: memo.Ack, Op: 0, Lives: lives}))
	x.Letter(2, said(3, memo.Memo{Kind: memo.Recover, Lives: lives}))
	x.Letter(1, said(3, memo.Memo{Kind: memo.Ack, Op: 7, Commit: 6}))
	if s := x.Stand(); s.Applied != 7 {
		t.Fatalf("%v", s)
	}
	out := x.Letter(1, said(3, memo.Memo{Kind: memo.Recover, Lives: []int{0, 8, 4}}))
	if m := open(t, out[0]); m.Man.Op != 7 {
		t.Fatalf("%v", m)
	}
	sends(t, fetch(2, 6, 1), sent{2, piece(1)})
	if out := x.Letter(1, said(3, memo.Memo{Kind: memo.Fetch, Op: 7, Lives: []int{0, 8, 4}})); len(out) != 1 || out[0].To != 1 {
		t.Errorf("%v", opened(t, out))
	}
	// One that acks has recovered: what was kept for it is let go.
	x.Letter(2, said(3, memo.Memo{Kind: memo.Ack, Op: 7, Lives: []int{0, 8, 4}}))
	sends(t, fetch(2, 6, 1))
}

// trimmedLeader leads three nodes, of which all have done six operations, four of them trimmed; its state has several pieces.
func trimmedLeader(t *testing.T) *Member {
	t.Helper()
	c := trimmedCluster(t)
	return c.l[0]
}

func trimmedCluster(t *testing.T) *cluster {
	t.Helper()
	c := newCluster(t, 3)
	file := api.Handle{No: 1, Gen: 1}
	c.ask(0, 3, 1, mk("a"))
	for i := range 3 {
		c.ask(0, 3, 2+i, body(api.Call{Kind: api.CallWrite, H: file, At: 1000 * i, Data: strings.Repeat(string(rune('a'+i)), 400)}))
	}
	c.tick(0, 2)
	c.l[0].Trim()
	c.ask(0, 4, 1, mk("b"))
	c.ask(0, 4, 2, mk("c"))
	c.tick(0, 2)
	stands(t, c.l[0], Stand{Up: true, Status: Normal, Base: 4, Last: 6, Commit: 6, Applied: 6, Low: 4})
	return c
}

// Inform.

func inform(n int, lives []int, m memo.Memo) string {
	m.Kind, m.Lives = memo.Inform, lives
	return said(n, m)
}

func TestInformsOfEnough(t *testing.T) {
	for _, n := range []int{3, 5, 7} {
		f := n / 2
		for _, id := range []int{1, n - 1} {
			x := started(t, id, n, 4)
			lives := make([]int, n)
			lives[id] = 4
			x.Letter(0, inform(n, lives, memo.Memo{View: 8 * (f + 1), Op: 3, Commit: 2, Items: items(3)}))
			x.Letter(0, inform(n, lives, memo.Memo{View: 8 * (f + 1), Op: 3, Commit: 2, Items: items(3)})) // one counts once
			told := 1
			for node := n - 1; told <= f; node-- {
				if node == id {
					continue
				}
				stands(t, x, Stand{Up: true, Status: Recovering})
				if out := x.Letter(node, inform(n, lives, memo.Memo{View: told})); len(out) != 0 {
					t.Errorf("%v", opened(t, out))
				}
				told++
			}
			want := Stand{Up: true, Status: Normal, View: 8 * (f + 1), Last: 3, Commit: 2, Applied: 2}
			if id > f {
				want.Applied = 0
			}
			stands(t, x, want)
			if !sameItems(x.Items(), items(3)) {
				t.Errorf("%v", x.Items())
			}
			if s, _, _ := mach.Run(mach.New(), items(2)); id <= f && !sameState(x.State(), s) {
				t.Errorf("%v", x.State())
			}
			if id > f && !isZero(x.State()) {
				t.Error("a witness has a state")
			}
			// From now on it takes part.
			out := x.Letter(0, said(n, memo.Memo{Kind: memo.Prepare, View: 8 * (f + 1), Op: 3, Commit: 3}))
			sends(t, out, sent{0, memo.Memo{Kind: memo.Ack, View: 8 * (f + 1), Op: 3, Commit: 3}})
		}
	}
}

// The primary of the greatest view has to have told, of that view.
func TestInformOfTheLeader(t *testing.T) {
	lives := []int{0, 0, 0, 0, 4}
	tell := func(x *Member, node, view, op int) {
		x.Letter(node, inform(5, lives, memo.Memo{View: view, Op: op, Items: items(op)}))
	}
	x := started(t, 4, 5, 4)
	tell(x, 0, 3, 3) // the leader of view 3
	tell(x, 1, 3, 0)
	tell(x, 2, 4, 0) // knows of view 4, whose primary is node 1
	stands(t, x, Stand{Up: true, Status: Recovering})
	tell(x, 3, 3, 0)
	stands(t, x, Stand{Up: true, Status: Recovering})
	tell(x, 1, 4, 2) // leads it now
	stands(t, x, Stand{Up: true, Status: Normal, View: 4, Last: 2})

	x = started(t, 4, 5, 4)
	tell(x, 0, 2, 0)
	tell(x, 1, 2, 0)
	tell(x, 3, 2, 0) // enough, but the primary of view 2 is node 2
	stands(t, x, Stand{Up: true, Status: Recovering})
	tell(x, 2, 2, 1)
	stands(t, x, Stand{Up: true, Status: Normal, View: 2, Last: 1})

	// The primary of the greatest view is itself: it waits for the next one.
	y := started(t, 1, 3, 4)
	for _, view := range []int{1, 3, 5} {
		for _, node := range []int{0, 2} {
			y.Letter(node, inform(3, []int{0, 4, 0}, memo.Memo{View: view}))
		}
		stands(t, y, Stand{Up: true, Status: Recovering})
	}
	y.Letter(0, inform(3, []int{0, 4, 0}, memo.Memo{View: 6}))
	stands(t, y, Stand{Up: true, Status: Normal, View: 6})
}

func TestInformsOfAnEarlierLife(t *testing.T) {
	x := made(t, 2, 3)
	x.Crash()
	x.Start(4)
	x.Crash()
	x.Start(6)
	for _, nonce := range []int{0, 4, 5} {
		for node := range 2 {
			x.Letter(node, inform(3, []int{0, 0, nonce}, memo.Memo{Op: 2, Items: items(2)}))
		}
		stands(t, x, Stand{Up: true, Status: Recovering})
	}
	x.Letter(0, inform(3, []int{0, 0, 6}, memo.Memo{}))
	x.Letter(1, inform(3, []int{0, 0, 4}, memo.Memo{}))
	stands(t, x, Stand{Up: true, Status: Recovering})
	x.Letter(1, inform(3, []int{0, 0, 6}, memo.Memo{}))
	stands(t, x, Stand{Up: true, Status: Normal})
	// One that is normal is not told.
	for node := range 2 {
		x.Letter(node, inform(3, []int{0, 0, 6}, memo.Memo{View: 2, Op: 2, Items: items(2)}))
	}
	stands(t, x, Stand{Up: true, Status: Normal})
}

// What is told in any order; what comes late of one node is nothing.
func TestInformsInAnyOrder(t *testing.T) {
	lives := []int{0, 0, 4}
	l := []mail{
		{from: 0, text: inform(3, lives, memo.Memo{View: 2, Op: 3, Commit: 2, Items: items(3)})},
		{from: 0, text: inform(3, lives, memo.Memo{View: 2, Op: 2, Commit: 2, Items: items(2)})}, // ahead of that
		{from: 0, text: inform(3, lives, memo.Memo{View: 1})},                                    // and this
		{from: 1, text: inform(3, lives, memo.Memo{View: 2})},
	}
	for _, order := range [][]int{{0, 1, 2, 3}, {2, 1, 0, 3}, {1, 0, 2, 3}, {3, 0}, {3, 2, 0}} {
		x := started(t, 2, 3, 4)
		for _, i := range order {
			x.Letter(l[i].from, l[i].text)
		}
		stands(t, x, Stand{Up: true, Status: Normal, View: 2, Last: 3, Commit: 2})
	}
}

// What a leader cannot have told is not taken.
func TestInformsThatCannotBe(t *testing.T) {
	man := shard.Manifest{Op: 5, Size: 39, Sum: 1}
	falling := []api.Item{item(3, 9, 1), item(2, 9, 2)}
	for i, m := range []memo.Memo{
		{Op: 3, Items: items(2)},
		{Op: 1, Items: items(2)},
		{Op: 2, Items: items(2), Commit: 3},
		{Op: 6, Base: 4, Items: items(2), Commit: 3, Man: man},
		{Op: 6, Base: 4, Items: items(2), Commit: 6},
		{Op: 6, Base: 4, Items: items(2), Commit: 6, Man: shard.Manifest{Op: 3, Size: 39, Sum: 1}},
		{Op: 6, Base: 4, Items: items(2), Commit: 5, Man: shard.Manifest{Op: 6, Size: 39, Sum: 1}},
		{Op: 2, Items: falling},
	} {
		for id := 1; id < 3; id++ {
			if id == 2 && m.Commit > 3 { // it is the manifest that is wrong: a witness needs none
				continue
			}
			lives := []int{0, 0, 0}
			lives[id] = 4
			x := started(t, id, 3, 4)
			x.Letter(0, inform(3, lives, m))
			x.Letter(3-id, inform(3, lives, memo.Memo{}))
			stands(t, x, Stand{Up: true, Status: Recovering})
			if out := x.Tick(); !has(t, out, memo.Recover) {
				t.Errorf("%d: %v", i, opened(t, out))
			}
		}
	}
}

// A witness needs no state: it is normal with the log alone.
func TestWitnessRecovers(t *testing.T) {
	c := trimmedCluster(t)
	c.crash(2)
	c.start(2, 3)
	stands(t, c.l[2], Stand{Up: true, Status: Normal, Base: 4, Last: 6, Commit: 6})
	if !sameItems(c.l[2].Items(), c.l[0].Items()) || !isZero(c.l[2].State()) {
		t.Errorf("%v", c.l[2].Items())
	}
}

// Where nothing was trimmed a replica makes its state of the log.
func TestReplicaRecoversByTheLog(t *testing.T) {
	c := newCluster(t, 3)
	for req := range 4 {
		c.ask(0, 3, req+1, mk(string(rune('a'+req))))
	}
	c.crash(1)
	c.start(1, 3)
	stands(t, c.l[1], Stand{Up: true, Status: Normal, Last: 4, Commit: 4, Applied: 4})
	if !sameState(c.l[1].State(), c.l[0].State()) {
		t.Errorf("%v", c.l[1].State())
	}
	// The leader itself is told by the next one.
	c.crash(0)
	c.start(0, 8)
	stands(t, c.l[0], Stand{Up: true, Status: Recovering})
	c.tick(1, 11)
	c.tick(0, 1)
	stands(t, c.l[0], Stand{Up: true, Status: Normal, View: 1, Last: 4, Commit: 4, Applied: 4})
	if !sameState(c.l[1].State(), c.l[0].State()) {
		t.Errorf("%v", c.l[0].State())
	}
}

// gathering is a replica that has been told of a state in pieces, the leader that has it, and the pieces.
func gathering(t *testing.T) (*Member, *Member, []shard.Shard) {
	t.Helper()
	c := trimmedCluster(t)
	c.crash(1)
	c.start(1, 7)
	x := c.l[1]
	if s := x.Stand(); s.Status != Recovering || s.Base != 4 || s.Last != 6 || s.Commit != 6 {
		t.Fatalf("%v", s)
	}
	if !isZero(x.State()) || !sameItems(x.Items(), c.l[0].Items()) {
		t.Fatal("it has a state")
	}
	text, _ := shot.Pack(c.l[0].State())
	_, pieces, _ := shard.Split(6, text)
	return x, c.l[0], pieces
}

func give(x *Member, s shard.Shard) []Out {
	return x.Letter(0, said(3, memo.Memo{Kind: memo.Piece, Op: s.Op, Number: s.Number, Data: s.Data, Normal: s.Sum}))
}

func TestReplicaRecoversByPieces(t *testing.T) {
	for seed := range 30 {
		x, leader, pieces := gathering(t)
		p := chance(seed)
		order := []int{}
		for i := range pieces {
			order = append(order, i)
		}
		for i := range order {
			j := p.below(len(order))
			order[i], order[j] = order[j], order[i]
		}
		for i, number := range order {
			s := x.Stand()
			if s.Status != Recovering {
				t.Fatalf("seed %d, piece %d: %v", seed, i, s)
			}
			// What asks for those that are missing, as many as 8.
			var want []sent
			for n := range pieces {
				if !contains(order[:i], n) && len(want) < 8 {
					want = append(want, sent{0, memo.Memo{Kind: memo.Fetch, Op: 6, Number: n}})
				}
			}
			sends(t, x.Tick(), want...)
			// Others that are none of them do nothing.
			bad := pieces[number]
			bad.Op = 5
			give(x, bad)
			bad = pieces[number]
			bad.Sum++
			give(x, bad)
			bad = pieces[number]
			bad.Data += "x"
			give(x, bad)
			bad = pieces[number]
			bad.Number = len(pieces)
			give(x, bad)
			give(x, pieces[order[0]]) // again
			sends(t, give(x, pieces[number]))
		}
		stands(t, x, Stand{Up: true, Status: Normal, Base: 4, Last: 6, Commit: 6, Applied: 6})
		if !sameState(x.State(), leader.State()) {
			t.Errorf("another state")
		}
		sends(t, x.Tick())
	}
}

func contains(l []int, x int) bool {
	for _, y := range l {
		if x == y {
			return true
		}
	}
	return false
}

// Of more than 8 the first 8 are asked for.
func TestFetchesOfMany(t *testing.T) {
	x := started(t, 1, 3, 7)
	man := shard.Manifest{Op: 1, Size: 256*12 + 1, Sum: 5}
	x.Letter(0, inform(3, []int{0, 7, 0}, memo.Memo{Op: 1, Base: 1, Commit: 1, Man: man}))
	x.Letter(2, inform(3, []int{0, 7, 0}, memo.Memo{}))
	ask := func(numbers ...int) {
		t.Helper()
		var want []sent
		for _, number := range numbers {
			want = append(want, sent{0, memo.Memo{Kind: memo.Fetch, Op: 1, Number: number}})
		}
		sends(t, x.Tick(), want...)
	}
	data := strings.Repeat("x", 256)
	ask(0, 1, 2, 3, 4, 5, 6, 7)
	for _, number := range []int{9, 3, 0} {
		give(x, shard.Shard{Op: 1, Number: number, Data: data, Sum: poly.Sum(data)})
	}
	ask(1, 2, 4, 5, 6, 7, 8, 10)
	for _, number := range []int{1, 2, 4, 5, 6} {
		give(x, shard.Shard{Op: 1, Number: number, Data: data, Sum: poly.Sum(data)})
	}
	ask(7, 8, 10, 11, 12)
}

// What is committed behind the state that it was told it does itself.
func TestGathersAndGoesOn(t *testing.T) {
	x := started(t, 1, 3, 7)
	l := items(5)
	s, _, _ := mach.Run(mach.New(), l[:3])
	text, _ := shot.Pack(s)
	man, pieces, _ := shard.Split(3, text)
	x.Letter(0, inform(3, []int{0, 7, 0}, memo.Memo{View: 4, Op: 5, Base: 2, Commit: 4, Items: l[2:], Man: man}))
	x.Letter(2, inform(3, []int{0, 7, 0}, memo.Memo{View: 4}))
	if got := x.Stand(); got.Status != Recovering || got.View != 4 || got.Commit != 4 || got.Last != 5 || got.Base != 2 {
		t.Errorf("%v", got)
	}
	for _, p := range pieces {
		give(x, p)
	}
	stands(t, x, Stand{Up: true, Status: Normal, View: 4, Base: 2, Last: 5, Commit: 4, Applied: 4})
	if want, _, _ := mach.Run(mach.New(), l[:4]); !sameState(want, x.State()) {
		t.Error("another state")
	}
}

// After 20 ticks without a new shard it begins anew.
func TestBeginsAnew(t *testing.T) {
	x, _, pieces := gathering(t)
	was := x.Stand()
	for range 19 {
		if out := x.Tick(); !has(t, out, memo.Fetch) {
			t.Fatalf("%v", opened(t, out))
		}
	}
	give(x, pieces[0]) // a new one: it counts from there
	for i := range 19 {
		if out := x.Tick(); !has(t, out, memo.Fetch) || has(t, out, memo.Recover) {
			t.Fatalf("%v", opened(t, out))
		}
		if i == 9 {
			give(x, pieces[0]) // not new
		}
	}
	sends(t, x.Tick(), toEach(memo.Memo{Kind: memo.Recover}, 0, 2)...)
	sends(t, x.Tick(), toEach(memo.Memo{Kind: memo.Recover}, 0, 2)...)
	stands(t, x, was) // nothing fell
	for _, p := range pieces {
		give(x, p) // it gathers none now
	}
	stands(t, x, was)
	// What it was told ahead counts no longer: enough have to tell anew.
	lives := []int{0, 7, 0}
	x.Letter(2, inform(3, lives, memo.Memo{}))
	sends(t, x.Tick(), toEach(memo.Memo{Kind: memo.Recover}, 0, 2)...)
	x.Letter(2, inform(3, lives, memo.Memo{View: 2}))
	stands(t, x, was)
	x.Letter(0, inform(3, lives, memo.Memo{View: 2, Op: 6, Commit: 5, Items: items(6)}))
	stands(t, x, Stand{Up: true, Status: Normal, View: 2, Last: 6, Commit: 6, Applied: 6})
	if s, _, _ := mach.Run(mach.New(), items(6)); !sameState(s, x.State()) {
		t.Error("another state")
	}
}

// Neither view nor commit falls when it is told anew.
func TestAnewNothingFalls(t *testing.T) {
	lives := []int{0, 7, 0}
	for i, m := range []memo.Memo{{View: 2, Op: 6, Commit: 5, Items: items(6)}, {View: 4, Op: 4, Commit: 4, Items: items(4)}} {
		x := started(t, 1, 3, 7)
		man := shard.Manifest{Op: 5, Size: 300, Sum: 5}
		x.Letter(0, inform(3, lives, memo.Memo{View: 4, Op: 6, Base: 5, Commit: 5, Items: items(6)[5:], Man: man}))
		x.Letter(2, inform(3, lives, memo.Memo{View: 4}))
		was := x.Stand()
		if was.View != 4 || was.Commit != 5 {
			t.Fatalf("%v", was)
		}
		for range 20 {
			x.Tick()
		}
		x.Letter(0, inform(3, lives, m))
		x.Letter(2, inform(3, lives, memo.Memo{View: m.View}))
		if s := x.Stand(); s.Status != Recovering || s.View != 4 || s.Commit != 5 {
			t.Errorf("%d: %v", i, s)
		}
	}
}

// One whose view is a lesser one tells, too.
func TestAnewByALesserView(t *testing.T) {
	lives := []int{0, 7, 0}
	x := started(t, 1, 3, 7)
	man := shard.Manifest{Op: 5, Size: 300, Sum: 5}
	x.Letter(0, inform(3, lives, memo.Memo{View: 4, Op: 5, Base: 5, Commit: 5, Man: man}))
	x.Letter(2, inform(3, lives, memo.Memo{View: 4}))
	for range 20 {
		x.Tick()
	}
	x.Letter(2, inform(3, lives, memo.Memo{View: 3}))
	x.Letter(0, inform(3, lives, memo.Memo{View: 6, Op: 6, Commit: 6, Items: items(6)}))
	stands(t, x, Stand{Up: true, Status: Normal, View: 6, Last: 6, Commit: 6, Applied: 6})
	// And pieces come of one that has gone on to another view, or not yet.
	y, _, pieces := gathering(t)
	for i, p := range pieces {
		y.Letter(0, said(3, memo.Memo{Kind: memo.Piece, View: i % 3, Op: p.Op, Number: p.Number, Data: p.Data, Normal: p.Sum}))
	}
	if s := y.Stand(); s.Status != Normal {
		t.Errorf("%v", s)
	}
}

// Shards that are of another text under the same number are found out, and it begins anew.
func TestPiecesOfAnotherText(t *testing.T) {
	x, leader, pieces := gathering(t)
	bad := pieces[1]
	bad.Data = strings.Repeat("z", len(bad.Data))
	bad.Sum = poly.Sum(bad.Data)
	give(x, bad)
	give(x, pieces[1]) // one that is there stays
	var out []Out
	for _, p := range pieces {
		out = append(out, give(x, p)...)
	}
	sends(t, out, toEach(memo.Memo{Kind: memo.Recover}, 0, 2)...)
	if s := x.Stand(); s.Status != Recovering || !isZero(x.State()) {
		t.Errorf("%v", s)
	}
	// And then it is told rightly.
	lives := []int{0, 7, 0}
	x.Letter(2, inform(3, lives, memo.Memo{}))
	x.Letter(0, leader.Letter(1, said(3, memo.Memo{Kind: memo.Recover, Lives: lives}))[0].Text)
	for _, p := range pieces {
		give(x, p)
	}
	stands(t, x, Stand{Up: true, Status: Normal, Base: 4, Last: 6, Commit: 6, Applied: 6})
}

// A text that is whole but no state.
func TestTextThatIsNoState(t *testing.T) {
	x := started(t, 1, 3, 7)
	man, pieces, _ := shard.Split(5, strings.Repeat("no state", 50))
	lives := []int{0, 7, 0}
	x.Letter(0, inform(3, lives, memo.Memo{Op: 5, Base: 5, Commit: 5, Man: man}))
	x.Letter(2, inform(3, lives, memo.Memo{}))
	var out []Out
	for _, p := range pieces {
		out = append(out, give(x, p)...)
	}
	sends(t, out, toEach(memo.Memo{Kind: memo.Recover}, 0, 2)...)
	if s := x.Stand(); s.Status != Recovering {
		t.Errorf("%v", s)
	}
}

// A leader that is asked twice tells of a later state: the one that gathers goes on with that, and keeps what is of the same.
func TestToldAgainWhileGathering(t *testing.T) {
	x, leader, pieces := gathering(t)
	lives := []int{0, 7, 0}
	ask := said(3, memo.Memo{Kind: memo.Recover, Lives: lives})
	give(x, pieces[0])
	first := leader.Letter(1, ask)[0].Text
	x.Letter(0, first)
	if out := x.Tick(); open(t, out[0]).Number != 1 {
		t.Errorf("it forgot a piece: %v", opened(t, out))
	}
	leader.Letter(4, request(4, 3, mk("d")))
	leader.Letter(2, said(3, memo.Memo{Kind: memo.Ack, Op: 7, Commit: 6, Lives: lives}))
	x.Letter(0, leader.Letter(1, ask)[0].Text)
	x.Letter(0, first) // late
	if s := x.Stand(); s.Commit != 7 || s.Last != 7 || s.Status != Recovering {
		t.Errorf("%v", s)
	}
	for range 4 {
		for _, o := range x.Tick() {
			for _, p := range leader.Letter(1, o.Text) {
				x.Letter(0, p.Text)
			}
		}
	}
	stands(t, x, Stand{Up: true, Status: Normal, Base: 4, Last: 7, Commit: 7, Applied: 7})
	if !sameState(x.State(), leader.State()) {
		t.Error("another state")
	}
}

// A state that is too long to be told is none: who needs it goes on asking, a witness does not need it.
func TestStateThatIsTooLong(t *testing.T) {
	x := trimmedLeader(t)
	for i := range 4 {
		x.state.Inodes[1].Runs = nil
		for j := range 2048 * (i + 1) {
			x.state.Inodes[1].Runs = append(x.state.Inodes[1].Runs, api.Run{At: 2 * j, Data: "x"})
		}
		x.state.Inodes[1].Attr.Size = 1 << 20
		if _, e := shot.Pack(x.state); e == api.ErrLong {
			break
		}
	}
	lives := []int{0, 7, 8}
	out := x.Letter(1, said(3, memo.Memo{Kind: memo.Recover, Lives: lives}))
	sends(t, out, sent{1, memo.Memo{Kind: memo.Inform, Op: 6, Base: 4, Commit: 6, Items: x.Items()}})
	replica, witness := started(t, 1, 3, 7), started(t, 2, 3, 8)
	for _, y := range []*Member{replica, witness} {
		y.Letter(3-y.id, inform(3, lives, memo.Memo{}))
		y.Letter(0, out[0].Text)
	}
	if s := replica.Stand(); s.Status != Recovering || !has(t, replica.Tick(), memo.Recover) {
		t.Errorf("%v", s)
	}
	if s := witness.Stand(); s.Status != Normal {
		t.Errorf("%v", s)
	}
}

// A single member has nobody to ask.
func TestAloneForEver(t *testing.T) {
	x := started(t, 0, 1, 3)
	for range 50 {
		sends(t, x.Tick())
	}
	stands(t, x, Stand{Up: true, Status: Recovering})
	if out := x.Letter(1, request(1, 1, mk("a"))); len(out) != 0 || !isZero(x.State()) {
		t.Errorf("%v", opened(t, out))
	}
}
