package ring

import (
	"fmt"
	"reflect"
	"strings"
	"testing"

	"sexton/api"
	"sexton/ask"
	"sexton/member"
	"sexton/memo"
	"sexton/post"
	"sexton/watch"
)

// chance is numbers that look like chance, and are the same each time.
type chance uint64

func (x *chance) below(n int) int {
	*x = *x*6364136223846793005 + 1442695040888963407
	return int(uint32(*x>>32) % uint32(n))
}

var root = api.Handle{No: 0, Gen: 1}

// makes is a call that makes a file in the root.
func makes(name string) api.Call {
	return api.Call{Kind: api.CallMake, H: root, Name: name}
}

// bytesOf are a call's bytes.
func bytesOf(c api.Call) string {
	s, e := ask.Pack(c)
	if e != api.OK {
		panic(e)
	}
	return s
}

func made(t *testing.T, n int) *Ring {
	t.Helper()
	r, e := New(n)
	if r == nil || e != api.OK {
		t.Fatalf("New(%d): %v, %v", n, r, e)
	}
	return r
}

// The choices, in short.
func call(client int, c api.Call) api.Choice {
	return api.Choice{Kind: api.DoCall, Client: client, Call: c}
}
func retry(client int) api.Choice      { return api.Choice{Kind: api.DoRetry, Client: client} }
func deliver(n int) api.Choice         { return api.Choice{Kind: api.DoDeliver, N: n} }
func lose(n int) api.Choice            { return api.Choice{Kind: api.DoLose, N: n} }
func again(n int) api.Choice           { return api.Choice{Kind: api.DoAgain, N: n} }
func tick(node int) api.Choice         { return api.Choice{Kind: api.DoTick, Node: node} }
func crash(node int) api.Choice        { return api.Choice{Kind: api.DoCrash, Node: node} }
func start(node, nonce int) api.Choice { return api.Choice{Kind: api.DoStart, Node: node, N: nonce} }
func trim(node int) api.Choice         { return api.Choice{Kind: api.DoTrim, Node: node} }

// The events, in short.
func called(client, req int, body string) watch.Event {
	return watch.Event{Kind: watch.Called, Client: client, Req: req, Body: body}
}
func done(client, req int, body string) watch.Event {
	return watch.Event{Kind: watch.Done, Client: client, Req: req, Body: body}
}
func answered(client, req int, body string) watch.Event {
	return watch.Event{Kind: watch.Answered, Client: client, Req: req, Body: body}
}

// does has choices happen: all their events.
func does(r *Ring, l ...api.Choice) []watch.Event {
	var events []watch.Event
	for _, x := range l {
		events = append(events, r.Step(x)...)
	}
	return events
}

// all delivers what waits, the oldest first, till nothing waits: the events.
func all(r *Ring) []watch.Event {
	var events []watch.Event
	for len(r.Waiting()) > 0 {
		events = append(events, r.Step(deliver(0))...)
	}
	return events
}

// round has all nodes and stubs tick, and all letters come.
func round(r *Ring) []watch.Event {
	var events []watch.Event
	for node := range r.members {
		events = append(events, r.Step(tick(node))...)
	}
	for client := range Clients {
		events = append(events, r.Step(retry(client))...)
	}
	return append(events, all(r)...)
}

// rounds are so many.
func rounds(r *Ring, count int) []watch.Event {
	var events []watch.Event
	for range count {
		events = append(events, round(r)...)
	}
	return events
}

// tells fails, if events are not those.
func tells(t *testing.T, got []watch.Event, want ...watch.Event) {
	t.Helper()
	if len(got) != len(want) {
		t.Fatalf("%v, want %v", got, want)
	}
	for i := range got {
		if got[i] != want[i] {
			t.Fatalf("event %d: %v, want %v", i, got[i], want[i])
		}
	}
}

// keeps fails, if events break a rule of chapter 26.
func keeps(t *testing.T, l []watch.Event) {
	t.Helper()
	if rule, at, e := watch.Check(l); rule != 0 || at != 0 || e != api.OK {
		t.Fatalf("rule %d is broken by %d, %v", rule, at, e)
	}
}

// letters are all that wait.
func letters(r *Ring) []post.Letter {
	var l []post.Letter
	for _, number := range r.post.Waiting() {
		x, _ := r.post.See(number)
		l = append(l, x)
	}
	return l
}

// memos are what the letters say that wait, in short.
func memos(r *Ring) string {
	var l []string
	for _, x := range letters(r) {
		m, e := memo.Unpack(x.Body)
		if e != api.OK {
			l = append(l, fmt.Sprintf("%d>%d:none", x.From, x.To))
			continue
		}
		l = append(l, fmt.Sprintf("%d>%d:%d", x.From, x.To, m.Kind))
	}
	return strings.Join(l, " ")
}

// waits fails, if other letters wait.
func waits(t *testing.T, r *Ring, want string) {
	t.Helper()
	if got := memos(r); got != want {
		t.Fatalf("%q waits, want %q", got, want)
	}
}

// sight is all that can be seen of a ring.
type sight struct {
	stands  []member.Stand
	items   [][]api.Item
	states  []api.State
	letters []post.Letter
	waiting []int
	history []api.Item
	down    int
	broken  bool
	stubs   [][3]int
}

func see(r *Ring) sight {
	s := sight{letters: letters(r), waiting: r.Waiting(), history: r.H(), down: r.Down(), broken: r.Broken()}
	for i := range r.members {
		s.stands = append(s.stands, r.Stand(i))
		s.items = append(s.items, append([]api.Item(nil), r.Items(i)...))
		s.states = append(s.states, tidy(r.State(i)))
	}
	for _, x := range r.stubs {
		req, under := x.Under()
		busy := 0
		if under {
			busy = 1
		}
		s.stubs = append(s.stubs, [3]int{req, busy, x.Target()})
	}
	s.history = append([]api.Item(nil), s.history...)
	s.waiting = append([]int(nil), s.waiting...)
	return s
}

// alike fails, if two rings can be told apart: by what is seen, or by what members keep and nobody sees.
func alike(t *testing.T, a, b *Ring, what string) {
	t.Helper()
	if x, y := see(a), see(b); !reflect.DeepEqual(x, y) {
		t.Fatalf("%s:\n%+v\n%+v", what, x, y)
	}
	for i := range a.members {
		if !reflect.DeepEqual(a.members[i], b.members[i]) {
			t.Fatalf("%s: node %d is another one", what, i)
		}
	}
}

// tidy is a state in new memory whose empty lists are nil.
func tidy(s api.State) api.State {
	var x api.State
	for _, y := range s.Inodes {
		y.Runs = append([]api.Run(nil), y.Runs...)
		y.Entries = append([]api.Entry(nil), y.Entries...)
		x.Inodes = append(x.Inodes, y)
	}
	x.Opens = append(x.Opens, s.Opens...)
	x.Seats = append(x.Seats, s.Seats...)
	x.Done = s.Done
	return x
}

func sameState(a, b api.State) bool { return reflect.DeepEqual(tidy(a), tidy(b)) }

func isZero(s api.State) bool { return reflect.DeepEqual(tidy(s), api.State{}) }
