package watch

import (
	"slices"
	"testing"

	"sexton/api"
	"sexton/mach"
)

// chance is numbers that look like chance, and are the same each time.
type chance uint64

func (x *chance) below(n int) int {
	*x = *x*6364136223846793005 + 1442695040888963407
	return int(uint32(*x>>32) % uint32(n))
}

// The rules in a second writing: of each event all that is ahead is looked through anew, and no map is kept.

// find is where the last event ahead is that is of that kind, client and request (0: of any); -1, if there is none.
func find(ahead []Event, kind, client, req int) int {
	for i := len(ahead) - 1; i >= 0; i-- {
		if x := ahead[i]; x.Kind == kind && x.Client == client && (req == 0 || x.Req == req) {
			return i
		}
	}
	return -1
}

// replies are what the operations ahead answer, by their places in the list.
func replies(ahead []Event) map[int]string {
	m := map[int]string{}
	s := mach.New()
	for i, x := range ahead {
		if x.Kind == Done {
			next, r, e := mach.Do(s, api.Item{Client: x.Client, Req: x.Req, Body: x.Body})
			if e != api.OK {
				panic(e)
			}
			s, m[i] = next, r
		}
	}
	return m
}

// modelCheck is Check, up to which event breaks which rule.
func modelCheck(l []Event) (int, int) {
	for i, e := range l {
		if rule := modelBroken(l[:i], e); rule != 0 {
			return rule, i
		}
	}
	return 0, 0
}

func modelBroken(ahead []Event, e Event) int {
	if e.Kind != 1 && e.Kind != 2 && e.Kind != 3 || e.Client < 0 || e.Client > 1<<40 || e.Req < 1 || e.Req > 1<<40 || e.Kind != 3 && len(e.Body) > 4096 {
		return 1
	}
	lastCall := find(ahead, Called, e.Client, 0)
	switch e.Kind {
	case Called:
		if lastCall >= 0 && (ahead[lastCall].Req >= e.Req || find(ahead, Answered, e.Client, ahead[lastCall].Req) < 0) {
			return 2
		}
	case Done:
		if at := find(ahead, Called, e.Client, e.Req); at < 0 || ahead[at].Body != e.Body {
			return 3
		}
		for i, r := range replies(ahead) {
			if x := ahead[i]; x.Client == e.Client && (x.Req > e.Req || x.Req == e.Req && r != wrong(api.Sessions)) {
				return 4
			}
		}
	case Answered:
		first := slices.IndexFunc(ahead, func(x Event) bool { return x.Kind == Done && x.Client == e.Client && x.Req == e.Req })
		if first < 0 || ahead[lastCall].Req != e.Req || find(ahead, Answered, e.Client, e.Req) >= 0 || replies(ahead)[first] != e.Body {
			return 5
		}
	}
	return 0
}

// modelOpen is Open.
func modelOpen(l []Event) []Event {
	var open []Event
	for i, e := range l {
		if e.Kind == Called && find(l[i+1:], Called, e.Client, 0) < 0 && !slices.ContainsFunc(l[i+1:], func(x Event) bool { return x.Kind == Answered && x.Client == e.Client && x.Req == e.Req }) {
			open = append(open, e)
		}
	}
	return open
}

// someEvent is an event that may follow, most of the time: what is likely is made of what is ahead.
func someEvent(x *chance, l []Event, clients int) Event {
	client := x.below(clients)
	body := []string{makes("a"), makes("b"), "x", ""}[x.below(4)]
	e := Event{Kind: Called, Client: client, Req: 1, Body: body}
	if at := find(l, Called, client, 0); at >= 0 {
		e = l[at]
		switch {
		case find(l, Answered, client, e.Req) >= 0 && x.below(8) > 0:
			e.Kind, e.Req, e.Body = Called, e.Req+1+x.below(2), body
		case find(l, Done, client, e.Req) >= 0 && x.below(5) > 0:
			e.Kind = Answered
			e.Body = replies(l)[find(l, Done, client, e.Req)]
		default:
			e.Kind = Done
		}
	}
	switch x.below(40) {
	case 0:
		e.Kind = x.below(5)
	case 1:
		e.Client = x.below(clients+1) - 1
	case 2:
		e.Req += x.below(3) - 1
	case 3:
		e.Body = body
	}
	return e
}

// 26.1 to 26.3
func TestAgainstSecondWriting(t *testing.T) {
	broken := map[int]int{}
	for seed := range 3000 {
		x := chance(seed)
		clients := 1 + x.below(9)
		var l []Event
		for range 10 + x.below(50) {
			l = append(l, someEvent(&x, l, clients))
			if modelBroken(l[:len(l)-1], l[len(l)-1]) != 0 {
				break
			}
		}
		rule, at := modelCheck(l)
		broken[rule]++
		breaks(t, l, rule, at)
		opens(t, l, modelOpen(l)...)
		if rule != 0 {
			// What is ahead of it breaks none, and what is behind it changes nothing.
			breaks(t, l[:at], 0, 0)
			breaks(t, list(l, l...), rule, at)
		} else {
			begins(t, l)
		}
	}
	for rule := range 6 {
		if broken[rule] < 50 {
			t.Errorf("rule %d: %d lists", rule, broken[rule])
		}
	}
}

// begins fails, if a beginning of a list that breaks no rule breaks one, or a request is answered twice.
func begins(t *testing.T, l []Event) {
	t.Helper()
	answers := map[request]int{}
	for i, e := range l {
		breaks(t, l[:i], 0, 0)
		if e.Kind == Answered {
			answers[requestOf(e)]++
		}
	}
	for x, n := range answers {
		if n > 1 {
			t.Errorf("%v was answered %d times", x, n)
		}
	}
}

// Lists of anything: Open, too, is told of those.
func TestOpenAgainstSecondWriting(t *testing.T) {
	x := chance(1)
	for range 20000 {
		var l []Event
		for range x.below(12) {
			l = append(l, Event{Kind: x.below(5), Client: x.below(4) - 1, Req: x.below(3), Body: string(rune('a' + x.below(2)))})
		}
		opens(t, l, modelOpen(l)...)
		rule, at := modelCheck(l)
		breaks(t, l, rule, at)
	}
}

// 26.3: what is answered is what one service answers, in an order that respects real time: a request that was answered ahead of the call of another one is done ahead of it.
func TestRealTime(t *testing.T) {
	whole := 0
	for seed := range 400 {
		x := chance(seed)
		var l []Event
		for range 60 {
			if e := someEvent(&x, l, 4); modelBroken(l, e) == 0 {
				l = append(l, e)
			}
		}
		breaks(t, l, 0, 0)
		for i, a := range l {
			if a.Kind != Answered {
				continue
			}
			did := find(l[:i], Done, a.Client, a.Req)
			for j, b := range l[i:] {
				if b.Kind == Called && find(l[:did], Done, b.Client, b.Req) >= 0 {
					t.Fatalf("seed %d: %d was called behind %d and done ahead of it", seed, i+j, i)
				}
			}
			whole++
		}
	}
	if whole < 2000 {
		t.Errorf("only %d answers", whole)
	}
}
