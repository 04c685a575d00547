package ring

import (
	"math"
	"slices"
	"strings"
	"testing"

	"sexton/answer"
	"sexton/api"
	"sexton/mach"
	"sexton/member"
	"sexton/memo"
	"sexton/post"
	"sexton/watch"
)

// 27.1: what a ring is, what each choice does, and what does nothing.

func TestNew(t *testing.T) {
	if Clients != 4 {
		t.Errorf("Clients: %d", Clients)
	}
	for _, n := range []int{math.MinInt, -1, 0, 1, 2, 3, 4, 5, 6, 7, 8, 9, 1<<32 + 3, math.MaxInt} {
		r, e := New(n)
		if n < 1 || n > 7 || n%2 == 0 {
			if r != nil || e != api.ErrArg {
				t.Errorf("New(%d): %v, %v", n, r, e)
			}
			continue
		}
		if r == nil || e != api.OK {
			t.Fatalf("New(%d): %v, %v", n, r, e)
		}
		for i := -1; i <= n; i++ {
			isNode := 0 <= i && i < n
			if s := r.Stand(i); isNode && s != (member.Stand{Up: true, Status: member.Normal}) || !isNode && s != (member.Stand{}) {
				t.Errorf("n %d: Stand(%d): %+v", n, i, s)
			}
			if isReplica := 0 <= i && i <= n/2; isReplica && !sameState(r.State(i), mach.New()) || !isReplica && !isZero(r.State(i)) {
				t.Errorf("n %d: State(%d): %+v", n, i, r.State(i))
			}
			if len(r.Items(i)) != 0 {
				t.Errorf("n %d: Items(%d): %v", n, i, r.Items(i))
			}
		}
		if len(r.H()) != 0 || len(r.Waiting()) != 0 || r.Down() != 0 || r.Broken() {
			t.Errorf("n %d: %v, %v, %d, %v", n, r.H(), r.Waiting(), r.Down(), r.Broken())
		}
	}
}

// The chapter's example.
func TestExample(t *testing.T) {
	r := made(t, 3)
	body := bytesOf(makes("a"))
	tells(t, r.Step(call(0, makes("a"))), called(3, 1, body))
	waits(t, r, "3>0:1")
	tells(t, r.Step(deliver(0)))
	waits(t, r, "0>1:3 0>2:3")
	tells(t, r.Step(deliver(0)))
	waits(t, r, "0>2:3 1>0:4")
	if len(r.H()) != 0 {
		t.Errorf("%v", r.H())
	}
	tells(t, r.Step(deliver(1)), done(3, 1, body))
	waits(t, r, "0>2:3 0>3:2")
	if h := r.H(); !slices.Equal(h, []api.Item{{View: 0, Client: 3, Req: 1, Body: body}}) {
		t.Errorf("%v", h)
	}
	reply, _ := answer.Pack(api.Reply{H: api.Handle{No: 1, Gen: 1}, Attr: api.Attr{Kind: api.KindFile, Links: 1, Stamp: 1}})
	tells(t, r.Step(deliver(1)), answered(3, 1, reply))
	waits(t, r, "0>2:3")
	if !slices.Equal(r.Waiting(), []int{3}) {
		t.Errorf("%v", r.Waiting())
	}
	tells(t, r.Step(deliver(0)))
	waits(t, r, "2>0:4")
}

// scene is a ring of three in which much is under way: a request is committed, another one is in the logs of two, letters to members and to a stub wait, node 2 is down.
func scene(t *testing.T) *Ring {
	t.Helper()
	r := made(t, 3)
	does(r, call(0, makes("a")))
	all(r)
	does(r, tick(0), call(1, makes("b")), deliver(2), crash(2), call(2, makes("c")))
	waits(t, r, "0>1:3 0>2:3 0>1:3 0>2:3 5>0:1")
	if len(r.H()) != 1 || r.Down() != 1 || r.Broken() {
		t.Fatal("no such scene")
	}
	return r
}

// doesNothing fails, if a choice does something, at once or later on.
func doesNothing(t *testing.T, x api.Choice) {
	t.Helper()
	a, b := scene(t), scene(t)
	tells(t, a.Step(x))
	alike(t, a, b, "at once")
	more := []api.Choice{retry(1), start(2, 5), tick(1), call(3, makes("d")), tick(2), again(1)}
	tells(t, append(does(a, more...), rounds(a, 3)...), append(does(b, more...), rounds(b, 3)...)...)
	alike(t, a, b, "later on")
}

func TestKinds(t *testing.T) {
	for _, kind := range []int{math.MinInt, -1, 0, 10, 11, 77, 1<<32 + 1, math.MaxInt} {
		doesNothing(t, api.Choice{Kind: kind})
		doesNothing(t, api.Choice{Kind: kind, Node: 1, N: 2, Client: 3, Call: makes("x")})
	}
	for kind := 0; kind <= 10; kind++ {
		r := scene(t)
		before := see(r)
		// Node 2 is down: one that is up is crashed, and ticks.
		node := 0
		if kind == api.DoStart {
			node = 2
		}
		events := r.Step(api.Choice{Kind: kind, Node: node, N: 1, Client: 3, Call: makes("x")})
		after := see(r)
		count := len(after.letters) - len(before.letters)
		want := map[int]int{api.DoCall: 1, api.DoDeliver: -1, api.DoLose: -1, api.DoAgain: 1, api.DoTick: 2, api.DoStart: 2}[kind]
		if count != want {
			t.Errorf("kind %d: %d letters more", kind, count)
		}
		if kind == api.DoCall {
			tells(t, events, called(6, 1, bytesOf(makes("x"))))
		} else {
			tells(t, events)
		}
		if wantDown := map[int]int{api.DoCrash: 2}[kind]; after.down != max(1, wantDown) {
			t.Errorf("kind %d: %d down", kind, after.down)
		}
	}
}

func TestClients(t *testing.T) {
	for _, client := range []int{math.MinInt, -4, -1, 4, 5, 7, 1 << 32, math.MaxInt} {
		doesNothing(t, call(client, makes("x")))
		doesNothing(t, retry(client))
	}
	for _, n := range []int{1, 3, 5, 7} {
		for client := range Clients {
			r := made(t, n)
			tells(t, r.Step(retry(client)))
			if len(letters(r)) != 0 {
				t.Errorf("n %d: an idle one sends", n)
			}
			tells(t, r.Step(call(client, makes("x"))), called(n+client, 1, bytesOf(makes("x"))))
			tells(t, r.Step(retry(client)))
			next := 1
			if n == 1 {
				next = 0
			}
			for i, to := range []int{0, next} {
				y := letters(r)[i]
				m, e := memo.Unpack(y.Body)
				if e != api.OK || m.Kind != memo.Request || m.Client != n+client || m.Op != 1 || m.Data != bytesOf(makes("x")) || y.From != n+client || y.To != to {
					t.Errorf("n %d, client %d: %v, %v", n, client, y, m)
				}
			}
			if !slices.Equal(r.Waiting(), []int{1, 2}) {
				t.Errorf("%v", r.Waiting())
			}
		}
	}
}

func TestCallsThatAreNone(t *testing.T) {
	wrong := []api.Call{
		{},
		{Kind: 15, H: root, Name: "x"},
		{Kind: -1, H: root, Name: "x"},
		{Kind: api.CallMake, H: api.Handle{No: 256, Gen: 1}, Name: "x"},
		{Kind: api.CallMake, H: api.Handle{No: 0, Gen: -1}, Name: "x"},
		{Kind: api.CallMake, H: root, Name: strings.Repeat("x", 256)},
		{Kind: api.CallWrite, H: root, At: -1},
		{Kind: api.CallRead, H: root, N: 65536},
		{Kind: api.CallWrite, H: root, Data: strings.Repeat("x", 1025)},
	}
	for _, c := range wrong {
		doesNothing(t, call(0, c))
		doesNothing(t, call(1, c))
	}
	// One is under way: neither the same call nor another one is made.
	doesNothing(t, call(1, makes("b")))
	doesNothing(t, call(1, makes("x")))
	doesNothing(t, call(2, makes("x")))
	// What the service refuses is a call.
	r := made(t, 1)
	c := api.Call{Kind: api.CallWrite, H: root, Data: strings.Repeat("x", 1024)}
	tells(t, r.Step(call(3, c)), called(4, 1, bytesOf(c)))
	tells(t, r.Step(deliver(0)), done(4, 1, bytesOf(c)))
	_, reply, _ := mach.Do(mach.New(), api.Item{Client: 4, Req: 1, Body: bytesOf(c)})
	tells(t, r.Step(deliver(0)), answered(4, 1, reply))
	// Then it is idle: its next request is its second one.
	tells(t, r.Step(call(3, makes("x"))), called(4, 2, bytesOf(makes("x"))))
}

// Answers that nobody reads must not keep a client from its calls.
func TestManyCalls(t *testing.T) {
	r := made(t, 1)
	var events []watch.Event
	for i := range 200 {
		events = append(events, does(r, call(2, makes(string(rune('a'+i%20)))), deliver(0), deliver(0), trim(0))...)
	}
	if len(events) != 600 || events[599].Kind != watch.Answered || events[599].Req != 200 || len(r.H()) != 200 {
		t.Fatalf("%d events", len(events))
	}
	keeps(t, events)
	if s := r.Stand(0); s.Base != 200 || s.Applied != 200 {
		t.Errorf("%+v", s)
	}
}

func TestNodes(t *testing.T) {
	for _, node := range []int{math.MinInt, -3, -1, 3, 4, 6, 7, 1 << 32, math.MaxInt} {
		for _, kind := range []int{api.DoTick, api.DoCrash, api.DoStart, api.DoTrim} {
			doesNothing(t, api.Choice{Kind: kind, Node: node, N: 9})
		}
	}
	for _, n := range []int{1, 3, 5, 7} {
		for node := range n {
			r := made(t, n)
			does(r, crash(node))
			for i := range n {
				if r.Stand(i).Up != (i != node) {
					t.Errorf("n %d: %d crashed: %d is up: %v", n, node, i, r.Stand(i).Up)
				}
			}
			does(r, start(node, 7))
			if s := r.Stand(node); s != (member.Stand{Up: true, Status: member.Recovering}) {
				t.Errorf("n %d: %d started: %+v", n, node, s)
			}
			l := letters(r)
			if len(l) != n-1 {
				t.Errorf("n %d: %d letters", n, len(l))
			}
			for _, y := range l {
				m, _ := memo.Unpack(y.Body)
				if y.From != node || y.To == node || m.Kind != memo.Recover || m.Lives[node] != 7 {
					t.Errorf("n %d: %d: %v, %v", n, node, y, m)
				}
			}
		}
	}
}

func TestTick(t *testing.T) {
	r := made(t, 5)
	tells(t, does(r, tick(0)))
	waits(t, r, "0>1:3 0>2:3 0>3:3 0>4:3")
	// The last node's timer: at the 20th tick.
	r = made(t, 5)
	for i := range 20 {
		if len(r.Waiting()) != 0 {
			t.Fatalf("%s waits behind %d ticks", memos(r), i)
		}
		tells(t, does(r, tick(4)))
	}
	waits(t, r, "4>0:5 4>1:5 4>2:5 4>3:5")
	if s := r.Stand(4); s.View != 1 || s.Status != member.Changing {
		t.Errorf("%+v", s)
	}
	for i := range 4 {
		if s := r.Stand(i); s.View != 0 || s.Status != member.Normal {
			t.Errorf("%d: %+v", i, s)
		}
	}
}

func TestTrim(t *testing.T) {
	r := made(t, 3)
	does(r, call(0, makes("a")))
	all(r)
	does(r, trim(0))
	if s := r.Stand(0); s.Base != 0 || s.Low != 0 {
		t.Errorf("what not all have applied is trimmed: %+v", s)
	}
	rounds(r, 2)
	does(r, trim(1), trim(2))
	for i := range 3 {
		if s := r.Stand(i); s.Base != 0 || s.Commit != 1 {
			t.Errorf("%d: %+v", i, s)
		}
	}
	tells(t, does(r, trim(0)))
	if s := r.Stand(0); s.Base != 1 || s.Low != 1 || len(r.Items(0)) != 0 || len(r.Waiting()) != 0 {
		t.Errorf("%+v", s)
	}
	// What was trimmed stays in the history.
	rounds(r, 2)
	if s := r.Stand(2); s.Base != 1 || len(r.H()) != 1 {
		t.Errorf("%+v, %v", s, r.H())
	}
}

func TestCrashesAndStartsThatAreNone(t *testing.T) {
	doesNothing(t, crash(2))
	for _, node := range []int{0, 1} {
		doesNothing(t, start(node, 1))
		doesNothing(t, start(node, 99))
	}
	for _, nonce := range []int{math.MinInt, -1, 0, api.MaxBig + 1, math.MaxInt} {
		doesNothing(t, start(2, nonce))
	}
	// Nonces rise from life to life, whatever was between them.
	r := made(t, 3)
	does(r, crash(1), start(1, 5), crash(1))
	for _, nonce := range []int{0, 1, 4, 5} {
		does(r, start(1, nonce))
		if r.Stand(1).Up {
			t.Errorf("started with %d behind 5", nonce)
		}
	}
	does(r, start(1, 6))
	if !r.Stand(1).Up {
		t.Error("not started with 6 behind 5")
	}
	does(r, crash(1), start(1, api.MaxBig))
	if !r.Stand(1).Up {
		t.Error("not started with the greatest one")
	}
	does(r, crash(1), start(1, api.MaxBig))
	if r.Stand(1).Up {
		t.Error("started with the greatest one twice")
	}
}

func TestLettersThatAreNone(t *testing.T) {
	for _, kind := range []int{api.DoDeliver, api.DoLose, api.DoAgain} {
		for _, n := range []int{math.MinInt, -5, -1, 5, 6, 1 << 32, math.MaxInt} {
			doesNothing(t, api.Choice{Kind: kind, N: n})
		}
		r := made(t, 3)
		other := made(t, 3)
		tells(t, r.Step(api.Choice{Kind: kind}))
		alike(t, r, other, "no letter waits")
	}
}

// Letters are counted by their numbers among those that wait.
func TestLetters(t *testing.T) {
	for place := range 5 {
		r := scene(t)
		numbers, old := r.Waiting(), letters(r)
		tells(t, r.Step(lose(place)))
		if got, want := r.Waiting(), slices.Delete(slices.Clone(numbers), place, place+1); !slices.Equal(got, want) {
			t.Errorf("lost %d: %v, want %v", place, got, want)
		}
		r = scene(t)
		tells(t, r.Step(again(place)))
		l := letters(r)
		if len(l) != 6 || !slices.Equal(l[:5], old) || l[5] != (post.Letter{Number: old[4].Number + 1, From: old[place].From, To: old[place].To, Body: old[place].Body}) {
			t.Errorf("again %d: %v", place, l)
		}
		// It comes a second time, too, as one more.
		r = scene(t)
		does(r, again(place), lose(place))
		if l := letters(r); len(l) != 5 || l[4].Body != old[place].Body {
			t.Errorf("again and lost %d: %v", place, l)
		}
	}
	// To a member: it does what it does, and sends.
	r := scene(t)
	tells(t, r.Step(deliver(0)))
	waits(t, r, "0>2:3 0>1:3 0>2:3 5>0:1 1>0:4")
	// The last one.
	r = scene(t)
	tells(t, r.Step(deliver(4)))
	waits(t, r, "0>1:3 0>2:3 0>1:3 0>2:3 0>1:3 0>2:3")
	// To a node that is down: it is gone.
	r = scene(t)
	before := see(r)
	tells(t, r.Step(deliver(1)))
	waits(t, r, "0>1:3 0>1:3 0>2:3 5>0:1")
	after := see(r)
	if !slices.Equal(before.stands, after.stands) || len(after.history) != 1 {
		t.Errorf("%+v", after)
	}
}

// What is for a stub: the answer, who leads, and what is neither.
func TestLettersToStubs(t *testing.T) {
	r := made(t, 3)
	body := bytesOf(makes("a"))
	does(r, call(3, makes("a")), retry(3)) // to 0, to 1
	tells(t, r.Step(deliver(1)))           // 1 does not lead
	waits(t, r, "6>0:1 1>6:2")
	tells(t, r.Step(deliver(1)))
	if target := r.stubs[3].Target(); target != 0 {
		t.Errorf("target %d", target)
	}
	does(r, deliver(0), deliver(0)) // the Prepare to 1
	tells(t, r.Step(deliver(1)), done(6, 1, body))
	waits(t, r, "0>2:3 0>6:2")
	does(r, again(1))
	events := r.Step(deliver(1))
	if len(events) != 1 || events[0].Kind != watch.Answered || events[0].Client != 6 || events[0].Req != 1 {
		t.Errorf("%v", events)
	}
	// The same again is no answer any more.
	tells(t, r.Step(deliver(1)))
	waits(t, r, "0>2:3")
	// Nor is it that of the next call.
	does(r, lose(0), call(3, makes("b")))
	waits(t, r, "6>0:1")
}

// A reply that came late, behind the next call, is not its answer.
func TestLateReply(t *testing.T) {
	r := made(t, 1)
	does(r, call(0, makes("a")), deliver(0), again(0))
	if events := r.Step(deliver(0)); len(events) != 1 || events[0].Req != 1 {
		t.Fatalf("%v", events)
	}
	does(r, call(0, makes("b")))
	waits(t, r, "0>1:2 1>0:1")
	tells(t, r.Step(deliver(0)))
	tells(t, r.Step(deliver(0)), done(1, 2, bytesOf(makes("b"))))
	if events := r.Step(deliver(0)); len(events) != 1 || events[0].Req != 2 {
		t.Fatalf("%v", events)
	}
}

// What a choice does not use may be anything.
func TestOtherFields(t *testing.T) {
	some := []api.Choice{call(3, makes("x")), retry(1), deliver(4), lose(3), again(2), tick(0), crash(1), start(2, 5), trim(0)}
	for _, x := range some {
		a, b := scene(t), scene(t)
		y := x
		if x.Kind != api.DoTick && x.Kind != api.DoCrash && x.Kind != api.DoStart && x.Kind != api.DoTrim {
			y.Node = 99
		}
		if x.Kind != api.DoDeliver && x.Kind != api.DoLose && x.Kind != api.DoAgain && x.Kind != api.DoStart {
			y.N = -7
		}
		if x.Kind != api.DoCall && x.Kind != api.DoRetry {
			y.Client = math.MaxInt
		}
		if x.Kind != api.DoCall {
			y.Call = api.Call{Kind: 99, N: -1}
		}
		tells(t, a.Step(x), b.Step(y)...)
		alike(t, a, b, "other fields")
	}
}

// full is a ring whose post has no room: a request, over and over.
func full(t *testing.T, n int) *Ring {
	t.Helper()
	r := made(t, n)
	does(r, call(0, makes("a")))
	for range post.MaxLetters - 1 {
		does(r, again(0))
	}
	if len(r.Waiting()) != post.MaxLetters {
		t.Fatalf("%d wait", len(r.Waiting()))
	}
	return r
}

func TestFullPost(t *testing.T) {
	r := full(t, 3)
	before := letters(r)
	same := func(what string) {
		t.Helper()
		if !slices.Equal(letters(r), before) {
			t.Errorf("%s: other letters wait", what)
		}
	}
	tells(t, r.Step(again(0)))
	same("again")
	tells(t, r.Step(tick(0)))
	same("tick")
	tells(t, r.Step(retry(0)))
	same("retry")
	// The call is made, though its letter is lost.
	tells(t, r.Step(call(1, makes("b"))), called(4, 1, bytesOf(makes("b"))))
	same("call")
	// A letter that is taken leaves room for one of the two that are sent.
	tells(t, r.Step(deliver(0)))
	l := letters(r)
	if len(l) != post.MaxLetters || !slices.Equal(l[:post.MaxLetters-1], before[1:]) || l[post.MaxLetters-1].To != 1 {
		t.Errorf("%d wait", len(l))
	}
	// It goes on.
	events := append(all(r), rounds(r, 5)...)
	if len(watch.Open(append([]watch.Event{called(3, 1, bytesOf(makes("a"))), called(4, 1, bytesOf(makes("b")))}, events...))) != 0 {
		t.Errorf("not all is answered: %v", events)
	}
}

// Down and Broken, before and behind each choice that matters to them.
func TestDownAndBroken(t *testing.T) {
	r := made(t, 3)
	at := func(down int, broken bool) {
		t.Helper()
		if r.Down() != down || r.Broken() != broken {
			t.Fatalf("%d, %v, want %d, %v", r.Down(), r.Broken(), down, broken)
		}
	}
	at(0, false)
	does(r, crash(0))
	at(1, false)
	does(r, crash(0))
	at(1, false)
	does(r, start(0, 1)) // it is recovering
	at(1, false)
	does(r, crash(0), start(0, 2))
	at(1, false)
	rounds(r, 12) // it cannot be told by itself, so that 1 leads first
	at(0, false)
	does(r, crash(2))
	at(1, false)
	does(r, crash(1))
	at(2, true)
	does(r, start(2, 1), start(1, 1))
	at(2, true)
	rounds(r, 30)
	at(2, true)
	does(r, crash(0))
	at(3, true)

	// A recovering one counts.
	r = made(t, 3)
	does(r, crash(0), start(0, 1), crash(1))
	at(2, true)
	// It stays broken, also if a node recovers by what others told ahead of it.
	r = made(t, 3)
	does(r, crash(2), start(2, 1), deliver(0), deliver(0))
	waits(t, r, "0>2:10 1>2:10")
	does(r, crash(1))
	at(2, true)
	does(r, deliver(0), deliver(0))
	at(1, true)
	does(r, tick(0))
	at(1, true)
	// In turn, never both.
	r = made(t, 3)
	for life := 1; life < 6; life++ {
		for node := range 3 {
			does(r, crash(node), start(node, life))
			at(1, false)
			rounds(r, 20)
			at(0, false)
		}
	}
	// Of one node, none may be down.
	r = made(t, 1)
	does(r, crash(0))
	at(1, true)
	does(r, start(0, 1))
	at(1, true)
	// Of seven, three.
	r = made(t, 7)
	for i := range 3 {
		does(r, crash(2*i))
		at(i+1, false)
	}
	does(r, crash(1))
	at(4, true)
}

// nobody fails, if a ring that is none does something.
func nobody(t *testing.T, r *Ring) {
	t.Helper()
	for kind := -1; kind <= 10; kind++ {
		for _, i := range []int{math.MinInt, -1, 0, 1, 4, math.MaxInt} {
			tells(t, r.Step(api.Choice{Kind: kind, Node: i, N: i, Client: i, Call: makes("a")}))
		}
	}
	for _, i := range []int{math.MinInt, -1, 0, 1, 3, math.MaxInt} {
		if r.Stand(i) != (member.Stand{}) || len(r.Items(i)) != 0 || !isZero(r.State(i)) {
			t.Errorf("%d: %v, %v, %v", i, r.Stand(i), r.Items(i), r.State(i))
		}
	}
	if len(r.H()) != 0 || len(r.Waiting()) != 0 || r.Down() != 0 || r.Broken() {
		t.Errorf("%v, %v, %d, %v", r.H(), r.Waiting(), r.Down(), r.Broken())
	}
}

func TestNilRing(t *testing.T) {
	nobody(t, nil)
	nobody(t, &Ring{})
}

func TestMembersThatThereAreNot(t *testing.T) {
	for _, n := range []int{1, 3, 5, 7} {
		r := made(t, n)
		does(r, call(0, makes("a")))
		rounds(r, 4)
		for i := range n {
			if r.Stand(i).Last != 1 || len(r.Items(i)) != 1 || len(r.State(i).Inodes) != 2 && i <= n/2 {
				t.Errorf("n %d: %d: %+v", n, i, r.Stand(i))
			}
		}
		for _, i := range []int{math.MinInt, -1, n, n + 1, n + 3, math.MaxInt} {
			if r.Stand(i) != (member.Stand{}) || len(r.Items(i)) != 0 || !isZero(r.State(i)) {
				t.Errorf("n %d: %d: %v, %v, %v", n, i, r.Stand(i), r.Items(i), r.State(i))
			}
		}
	}
}

// R3: what is answered is new memory.
func TestNewMemory(t *testing.T) {
	r, other := made(t, 3), made(t, 3)
	l := []api.Choice{call(0, makes("a")), deliver(0), deliver(0)}
	does(r, l...)
	does(other, l...)
	events := r.Step(deliver(1))
	tells(t, events, other.Step(deliver(1))...)
	spoil := func() {
		for _, e := range [][]watch.Event{events, events[:cap(events)]} {
			for i := range e {
				e[i] = watch.Event{Kind: 9}
			}
		}
		h := r.H()
		h = append(h, api.Item{})[:cap(h)]
		for i := range h {
			h[i] = api.Item{Client: 9}
		}
		w := r.Waiting()
		for i := range w {
			w[i] = 99
		}
		for node := range 3 {
			items := r.Items(node)
			for i := range items {
				items[i] = api.Item{Client: 9}
			}
			s := r.State(node)
			for i := range s.Inodes {
				s.Inodes[i] = api.Inode{}
			}
		}
	}
	spoil()
	alike(t, r, other, "spoilt")
	for range 5 {
		tells(t, round(r), round(other)...)
		spoil()
		alike(t, r, other, "spoilt")
	}
	first, second := r.H(), r.H()
	first[0].Client = 77
	if second[0].Client != 3 || r.H()[0].Client != 3 {
		t.Error("two answers share memory")
	}
}
