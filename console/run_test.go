package console

import (
	"slices"
	"strings"
	"testing"

	"sexton/answer"
	"sexton/api"
	"sexton/member"
	"sexton/ring"
	"sexton/watch"
)

// 28.3, 28.4: scripts that are played.

func packed(t *testing.T, n int, l ...api.Choice) string {
	t.Helper()
	b, e := Pack(n, l)
	if e != api.OK {
		t.Fatalf("Pack: %v", e)
	}
	return b
}

// plays fails, if a script tells other lines.
func plays(t *testing.T, b string, lines ...string) {
	t.Helper()
	want := ""
	for _, s := range lines {
		want += s + "\n"
	}
	if s, e := Run(b); s != want || e != api.OK {
		t.Fatalf("Run: %q, %v, want %q", s, e, want)
	}
	if s, _ := Run(b); s != want {
		t.Fatal("Run told something else the second time")
	}
}

func lineOf(t *testing.T, e watch.Event) string {
	t.Helper()
	s, no := Line(e)
	if no != api.OK {
		t.Fatal(no)
	}
	return s
}

func TestRunOfNoScript(t *testing.T) {
	unpacksNot(t, "", api.ErrCut)
	unpacksNot(t, "\x03\x00", api.ErrForm)
	unpacksNot(t, "\x03\x00\x04\x01\x00\x01", api.ErrForm)
	unpacksNot(t, "\x03\x00\x04\x01\x00\x01\x0a", api.ErrForm)
	// What is wrong with a script is told ahead of how many nodes it has.
	unpacksNot(t, "\x02\x00", api.ErrForm)
	unpacksNot(t, "\x00"+strings.Repeat("\x00\x04\x01\x00\x01\x06", 1001), api.ErrLong)
}

func TestRunOfNoPanel(t *testing.T) {
	for n := range 256 {
		for _, b := range []string{packed(t, n), packed(t, n, api.Choice{Kind: api.DoTick})} {
			if n == 1 || n == 3 || n == 5 || n == 7 {
				plays(t, b)
			} else if s, e := Run(b); s != "" || e != api.ErrArg {
				t.Fatalf("Run of %d nodes: %q, %v", n, s, e)
			}
		}
	}
}

func TestRun(t *testing.T) {
	call := api.Choice{Kind: api.DoCall, Client: 2, Call: makes("a")}
	deliver := api.Choice{Kind: api.DoDeliver}
	crash := api.Choice{Kind: api.DoCrash}
	body := bytesOf(makes("a"))
	reply, _ := answer.Pack(api.Reply{H: api.Handle{No: 1, Gen: 1}, Attr: api.Attr{Kind: api.KindFile, Links: 1, Stamp: 1}})
	called := lineOf(t, watch.Event{Kind: watch.Called, Client: 3, Req: 1, Body: body})
	done := lineOf(t, watch.Event{Kind: watch.Done, Client: 3, Req: 1, Body: body})
	answered := lineOf(t, watch.Event{Kind: watch.Answered, Client: 3, Req: 1, Body: reply})
	plays(t, packed(t, 1))
	plays(t, packed(t, 1, call), called)
	plays(t, packed(t, 1, call, call), called)
	plays(t, packed(t, 1, call, deliver), called, done)
	plays(t, packed(t, 1, call, deliver, deliver), called, done, answered)
	plays(t, packed(t, 1, call, deliver, deliver, deliver), called, done, answered)
	// The premise is broken, whenever that was; it is told behind all else, once.
	plays(t, packed(t, 1, crash), "broken")
	plays(t, packed(t, 1, crash, crash, call), called, "broken")
	plays(t, packed(t, 1, call, deliver, crash, deliver), called, done, answered, "broken")
	plays(t, packed(t, 3, crash))
	plays(t, packed(t, 3, crash, api.Choice{Kind: api.DoStart, N: 1}))
	plays(t, packed(t, 3, crash, api.Choice{Kind: api.DoStart, N: 1}, api.Choice{Kind: api.DoCrash, Node: 1}), "broken")
	plays(t, packed(t, 3, crash, api.Choice{Kind: api.DoCrash, Node: 1}, api.Choice{Kind: api.DoStart, Node: 1, N: 1}), "broken")
	// A node recovers by what others told ahead of that: it was broken all the same.
	healed := []api.Choice{{Kind: api.DoCrash, Node: 2}, {Kind: api.DoStart, Node: 2, N: 1}, deliver, deliver, {Kind: api.DoCrash, Node: 1}, deliver, deliver}
	plays(t, packed(t, 3, healed...), "broken")
	// What a ring does not have does nothing.
	plays(t, packed(t, 1, api.Choice{Kind: api.DoCall, Client: 4, Call: makes("a")}, api.Choice{Kind: api.DoCrash, Node: 1}, api.Choice{Kind: api.DoDeliver, N: 1 << 40}, api.Choice{Kind: api.DoCall}))
}

// author writes a script, by looking at a ring that plays along.
type author struct {
	chance chance
	n      int
	ring   *ring.Ring
	script []api.Choice
	events []watch.Event
	nonce  int
}

// someCall is a call, such as a client would make.
func (x *author) someCall() api.Call {
	root := api.Handle{No: 0, Gen: 1}
	some := api.Handle{No: 1 + x.chance.below(4), Gen: 1}
	name := string(rune('a' + x.chance.below(5)))
	switch x.chance.below(6) {
	case 0, 1:
		return makes(name)
	case 2:
		return api.Call{Kind: api.CallUnlink, H: root, Name: name}
	case 3:
		return api.Call{Kind: api.CallList, H: root, N: 9}
	case 4:
		return api.Call{Kind: api.CallRead, H: some, N: 20}
	}
	return api.Call{Kind: api.CallWrite, H: some, At: x.chance.below(50), Data: strings.Repeat(name, 1+x.chance.below(30))}
}

// next is what happens next: no crash by which more than f nodes are down, but if the author is reckless.
func (x *author) next(reckless bool) api.Choice {
	node, client, waiting := x.chance.below(x.n), x.chance.below(ring.Clients), len(x.ring.Waiting())
	switch k := x.chance.below(100); {
	case k < 10:
		return api.Choice{Kind: api.DoCall, Client: client, Call: x.someCall()}
	case k < 15:
		return api.Choice{Kind: api.DoRetry, Client: client}
	case k < 60:
		return api.Choice{Kind: api.DoDeliver}
	case k < 75:
		return api.Choice{Kind: api.DoDeliver, N: x.chance.below(waiting + 1)}
	case k < 78:
		return api.Choice{Kind: api.DoLose, N: x.chance.below(waiting + 1)}
	case k < 80:
		return api.Choice{Kind: api.DoAgain, N: x.chance.below(waiting + 1)}
	case k < 93:
		return api.Choice{Kind: api.DoTick, Node: node}
	case k < 95 && (reckless || x.mayCrash(node)):
		return api.Choice{Kind: api.DoCrash, Node: node}
	case k < 98:
		x.nonce++
		return api.Choice{Kind: api.DoStart, Node: node, N: x.nonce}
	}
	return api.Choice{Kind: api.DoTrim, Node: node}
}

func (x *author) mayCrash(node int) bool {
	s := x.ring.Stand(node)
	return !s.Up || s.Status == member.Recovering || x.ring.Down() < x.n/2
}

func (x *author) write(count int, reckless bool) {
	for range count {
		c := x.next(reckless)
		x.script = append(x.script, c)
		x.events = append(x.events, x.ring.Step(c)...)
	}
}

// Scripts that break the premise and that do not: the lines are those of the events, and read again keep the rules of chapter 26.
func TestScripts(t *testing.T) {
	broken, whole, answers := 0, 0, 0
	for seed := range 80 {
		n := []int{1, 3, 5, 7}[seed%4]
		r, _ := ring.New(n)
		x := &author{chance: chance(seed), n: n, ring: r}
		x.write(100+x.chance.below(901), seed%5 == 0)
		b := packed(t, n, x.script...)
		s, e := Run(b)
		if e != api.OK {
			t.Fatal(e)
		}
		lines := strings.Split(s, "\n")
		if lines[len(lines)-1] != "" {
			t.Fatalf("seed %d: the last line does not end", seed)
		}
		lines = lines[:len(lines)-1]
		if r.Broken() {
			broken++
			if len(lines) == 0 || lines[len(lines)-1] != "broken" {
				t.Fatalf("seed %d: it is not told that it is broken", seed)
			}
			lines = lines[:len(lines)-1]
		}
		var events []watch.Event
		for _, line := range lines {
			y, e := Event(line)
			if e != api.OK {
				t.Fatalf("seed %d: %q: %v", seed, line, e)
			}
			events = append(events, y)
			if y.Kind == watch.Answered {
				answers++
			}
		}
		if !slices.Equal(events, x.events) {
			t.Fatalf("seed %d: other events", seed)
		}
		if rule, at, e := watch.Check(events); !r.Broken() {
			whole++
			if rule != 0 || e != api.OK {
				t.Fatalf("seed %d: rule %d is broken by %d, %v", seed, rule, at, e)
			}
		}
		// The same script tells the same.
		if again, _ := Run(b); again != s {
			t.Fatalf("seed %d: told something else", seed)
		}
	}
	if broken < 10 || whole < 50 || answers < 500 {
		t.Errorf("%d broken, %d whole, %d answers", broken, whole, answers)
	}
}

// P1: whatever a script chooses, it is played to its end.
func TestAnyScripts(t *testing.T) {
	p := chance(3)
	for range 300 {
		n := []int{1, 3, 5, 7}[p.below(4)]
		var l []api.Choice
		for range p.below(200) {
			x := someChoice(&p)
			if p.below(2) == 0 {
				x.Node, x.Client, x.N = p.below(n+1), p.below(5), p.below(6)
			}
			if hasRecord(x) {
				l = append(l, x)
			}
		}
		if _, e := Run(packed(t, n, l...)); e != api.OK {
			t.Fatal(e)
		}
	}
}
