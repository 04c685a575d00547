package watch

import (
	"math"
	"slices"
	"strings"
	"testing"

	"sexton/answer"
	"sexton/api"
	"sexton/ask"
	"sexton/mach"
)

// makes are the bytes of a call that makes a file in the root.
func makes(name string) string {
	s, e := ask.Pack(api.Call{Kind: api.CallMake, H: api.Handle{No: 0, Gen: 1}, Name: name})
	if e != api.OK {
		panic(e)
	}
	return s
}

// wrong are the bytes of a reply that tells an error.
func wrong(e api.Errno) string {
	s, _ := answer.Pack(api.Reply{E: e})
	return s
}

func called(client, req int, body string) Event   { return Event{Called, client, req, body} }
func done(client, req int, body string) Event     { return Event{Done, client, req, body} }
func answered(client, req int, body string) Event { return Event{Answered, client, req, body} }

// reply is what the last operation of a list answers, if one more is done behind it.
func reply(l []Event, e Event) string {
	var items []api.Item
	for _, x := range append(slices.Clone(l), e) {
		if x.Kind == Done {
			items = append(items, api.Item{Client: x.Client, Req: x.Req, Body: x.Body})
		}
	}
	_, replies, err := mach.Run(mach.New(), items)
	if err != api.OK {
		panic(err)
	}
	return replies[len(replies)-1]
}

// whole is a list with a request behind it that is called, done and answered.
func whole(l []Event, client, req int, body string) []Event {
	return append(slices.Clone(l), called(client, req, body), done(client, req, body), answered(client, req, reply(l, done(client, req, body))))
}

// full is a list in which six clients have a request done, so that there is no seat for another one.
func full() []Event {
	var l []Event
	for client := range api.MaxSeats {
		l = whole(l, client, 1, makes(string(rune('a'+client))))
	}
	return l
}

// list is events one behind the other.
func list(l []Event, more ...Event) []Event { return append(slices.Clone(l), more...) }

// breaks fails, if another rule is broken, or by another event; of no rule (0, 0) all is kept.
func breaks(t *testing.T, l []Event, rule, at int) {
	t.Helper()
	old := slices.Clone(l)
	if n, i, e := Check(l); n != rule || i != at || e != api.OK {
		t.Errorf("Check: rule %d by %d, %v, want %d by %d: %v", n, i, e, rule, at, short(l))
	}
	if !slices.Equal(l, old) {
		t.Errorf("Check changed the list")
	}
}

// last fails, if the last event breaks another rule, or one ahead of it does.
func last(t *testing.T, l []Event, rule int) {
	t.Helper()
	at := len(l) - 1
	if rule == 0 {
		at = 0
	}
	breaks(t, l, rule, at)
}

// short is a list with its bodies cut short.
func short(l []Event) []Event {
	l = slices.Clone(l)
	for i, e := range l {
		l[i].Body = e.Body[:min(len(e.Body), 20)]
	}
	return l[max(0, len(l)-12):]
}

func tooMany(t *testing.T, l []Event) {
	t.Helper()
	if n, i, e := Check(l); n != 0 || i != 0 || e != api.ErrLong {
		t.Errorf("Check of %d events: %d, %d, %v", len(l), n, i, e)
	}
}

// opens fails, if Open tells other events, or changes the list.
func opens(t *testing.T, l []Event, want ...Event) {
	t.Helper()
	old := slices.Clone(l)
	if got := Open(l); !slices.Equal(got, want) {
		t.Errorf("Open(%v): %v, want %v", short(l), got, want)
	}
	if !slices.Equal(l, old) {
		t.Errorf("Open changed the list")
	}
}

// 26.1: how many.

func TestHowManyEvents(t *testing.T) {
	breaks(t, nil, 0, 0)
	breaks(t, []Event{}, 0, 0)
	var l []Event
	s := mach.New()
	for i := 0; len(l) < 4095; i++ {
		x := api.Item{Client: 3 + i%4, Req: 1 + i/4, Body: makes(string([]byte{byte('a' + i%16), byte('a' + i/16%2)}))}
		next, r, _ := mach.Do(s, x)
		s = next
		l = append(l, called(x.Client, x.Req, x.Body), done(x.Client, x.Req, x.Body), answered(x.Client, x.Req, r))
	}
	breaks(t, l, 0, 0)
	breaks(t, list(l, called(9, 1, "x")), 0, 0)
	breaks(t, list(l, answered(9, 1, "x")), 5, 4095)
	breaks(t, list(l, Event{}), 1, 4095)
	tooMany(t, list(l, called(9, 1, "x"), done(9, 1, "x")))
	tooMany(t, make([]Event, 4097))
	tooMany(t, make([]Event, 100000))
	breaks(t, make([]Event, 4096), 1, 0)

	// The others know no such limit.
	l = list(l, called(9, 1, "x"))
	opens(t, l, called(9, 1, "x"))
	opens(t, list(l, called(10, 1, "y")), called(9, 1, "x"), called(10, 1, "y"))
	if n := len(Items(l)); n != 1365 {
		t.Errorf("%d items", n)
	}
	if n := len(Items(list(l, done(10, 1, "y")))); n != 1366 {
		t.Errorf("%d items", n)
	}
}

// Rule 1.

func TestKinds(t *testing.T) {
	for _, kind := range []int{math.MinInt, -1, 0, 4, 5, 1 << 32, 1<<32 + 1, math.MaxInt} {
		breaks(t, []Event{{Kind: kind, Client: 5, Req: 1, Body: "x"}}, 1, 0)
		last(t, list(whole(nil, 5, 1, "x"), Event{Kind: kind, Client: 5, Req: 2}), 1)
	}
}

func TestClients(t *testing.T) {
	for _, client := range []int{math.MinInt, -1 << 32, -1, api.MaxBig + 1, 1 << 50, math.MaxInt} {
		for kind := Called; kind <= Answered; kind++ {
			breaks(t, []Event{{kind, client, 1, "x"}}, 1, 0)
		}
	}
	for _, client := range []int{0, 1, 31, 32, 1 << 32, api.MaxBig - 1, api.MaxBig} {
		breaks(t, whole(nil, client, 1, makes("a")), 0, 0)
		breaks(t, []Event{done(client, 1, "x")}, 3, 0)
		breaks(t, []Event{answered(client, 1, "x")}, 5, 0)
	}
}

func TestRequests(t *testing.T) {
	for _, req := range []int{math.MinInt, -1, 0, api.MaxBig + 1, 1 << 50, math.MaxInt} {
		for kind := Called; kind <= Answered; kind++ {
			breaks(t, []Event{{kind, 5, req, "x"}}, 1, 0)
		}
	}
	for _, req := range []int{1, 2, 1 << 32, api.MaxBig - 1, api.MaxBig} {
		breaks(t, whole(nil, 5, req, makes("a")), 0, 0)
		breaks(t, []Event{done(5, req, "x")}, 3, 0)
		breaks(t, []Event{answered(5, req, "x")}, 5, 0)
	}
}

func TestBodies(t *testing.T) {
	for _, n := range []int{0, 1, 4095, 4096} {
		breaks(t, whole(nil, 5, 1, strings.Repeat("x", n)), 0, 0)
		breaks(t, []Event{done(5, 1, strings.Repeat("x", n))}, 3, 0)
	}
	for _, n := range []int{4097, 4098, 65536} {
		long := strings.Repeat("x", n)
		breaks(t, []Event{called(5, 1, long)}, 1, 0)
		breaks(t, []Event{done(5, 1, long)}, 1, 0)
		breaks(t, []Event{called(5, 1, "x"), done(5, 1, long)}, 1, 1)
	}
	// An answer's length is not this rule's.
	l := []Event{called(5, 1, "x"), done(5, 1, "x")}
	for _, n := range []int{0, 4095, 4096, 4097, 65536} {
		last(t, list(l, answered(5, 1, strings.Repeat("x", n))), 5)
	}
}

// Rule 2.

func TestRequestsRise(t *testing.T) {
	l := whole(nil, 5, 7, makes("a"))
	for _, req := range []int{1, 6, 7} {
		last(t, list(l, called(5, req, makes("a"))), 2)
		last(t, list(l, called(5, req, makes("b"))), 2)
	}
	for _, req := range []int{8, 9, api.MaxBig} {
		last(t, list(l, called(5, req, makes("a"))), 0)
	}
	// Of another client nothing is asked.
	last(t, list(l, called(6, 1, makes("a"))), 0)
	// They rise from the last one on, not from the first.
	l = whole(l, 5, 20, makes("b"))
	last(t, list(l, called(5, 8, "x")), 2)
	last(t, list(l, called(5, 20, "x")), 2)
	last(t, list(l, called(5, 21, "x")), 0)
}

func TestCalledAheadOfTheAnswer(t *testing.T) {
	l := []Event{called(5, 1, "x")}
	last(t, list(l, called(5, 2, "x")), 2)
	last(t, list(l, called(5, 1, "x")), 2)
	last(t, list(l, called(6, 2, "x")), 0)
	l = append(l, done(5, 1, "x"))
	last(t, list(l, called(5, 2, "x")), 2)
	last(t, list(l, called(6, 2, "x")), 0)
	l = append(l, answered(5, 1, wrong(api.BadCall)))
	last(t, list(l, called(5, 2, "x")), 0)
	// That another client was answered does not help.
	l = list(whole(nil, 6, 1, "x"), called(5, 1, "x"))
	last(t, list(l, called(5, 2, "x")), 2)
	last(t, list(l, called(6, 2, "x")), 0)
	// Nor that an earlier one was.
	l = list(whole(nil, 5, 1, "x"), called(5, 2, "x"))
	last(t, list(l, called(5, 3, "x")), 2)
}

// Rule 3.

func TestDoneIsWhatWasCalled(t *testing.T) {
	last(t, []Event{done(5, 1, "x")}, 3)
	last(t, []Event{done(5, 1, "")}, 3)
	l := []Event{called(5, 2, "x")}
	last(t, list(l, done(5, 2, "x")), 0)
	for _, e := range []Event{done(5, 1, "x"), done(5, 3, "x"), done(4, 2, "x"), done(2, 5, "x"), done(5, 2, "y"), done(5, 2, ""), done(5, 2, "xx"), done(5, 2, makes("a"))} {
		last(t, list(l, e), 3)
	}
	// With an earlier one's Body.
	l = list(whole(nil, 5, 1, "x"), called(5, 2, "y"))
	last(t, list(l, done(5, 2, "x")), 3)
	last(t, list(l, done(5, 2, "y")), 0)
	// With no bytes.
	last(t, []Event{called(5, 2, ""), done(5, 2, "")}, 0)
	last(t, []Event{called(5, 2, ""), done(5, 2, "x")}, 3)
	// That it is called later does not help.
	breaks(t, []Event{done(5, 1, "x"), called(5, 1, "x")}, 3, 0)
}

// Rule 4.

func TestDoneAgain(t *testing.T) {
	for _, body := range []string{"", "x", makes("a")} {
		l := []Event{called(5, 1, body), done(5, 1, body)}
		last(t, list(l, done(5, 1, body)), 4)
		last(t, list(whole(nil, 5, 1, body), done(5, 1, body)), 4)
		last(t, list(whole(nil, 5, 1, body), called(5, 2, body), done(5, 1, body)), 4)
		// Others that were done between do not help.
		last(t, list(whole(l, 6, 1, body), done(5, 1, body)), 4)
	}
}

func TestDoneOfAnEarlierRequest(t *testing.T) {
	l := whole(whole(nil, 5, 3, makes("a")), 5, 7, makes("b"))
	last(t, list(l, done(5, 3, makes("a"))), 4)
	last(t, list(l, done(5, 7, makes("b"))), 4)
	last(t, list(l, called(5, 8, makes("a")), done(5, 3, makes("a"))), 4)
	last(t, list(l, called(5, 8, makes("a")), done(5, 8, makes("a"))), 0)
	// Of another client it is none.
	last(t, list(whole(nil, 5, 9, "x"), called(6, 1, "x"), done(6, 1, "x")), 0)
}

func TestDoneAgainWithoutASeat(t *testing.T) {
	l := list(full(), called(9, 4, makes("z")))
	for range 3 {
		l = append(l, done(9, 4, makes("z")))
		last(t, l, 0)
		// Of those that have a seat nothing else is asked.
		last(t, list(l, done(0, 1, makes("a"))), 4)
		last(t, list(l, done(5, 1, makes("f"))), 4)
	}
	l = append(l, answered(9, 4, wrong(api.Sessions)))
	last(t, l, 0)
	// Behind the answer, too.
	l = append(l, done(9, 4, makes("z")))
	last(t, l, 0)
	last(t, list(l, answered(9, 4, wrong(api.Sessions))), 5)
	l = append(l, called(9, 5, makes("z")), done(9, 4, makes("z")), done(9, 5, makes("z")))
	last(t, l, 0)
	last(t, list(l, done(9, 5, makes("z"))), 0)
	// A later one was done ahead.
	last(t, list(l, done(9, 4, makes("z"))), 4)
	last(t, list(l, done(9, 5, makes("y"))), 3)
}

func TestTheLastSeat(t *testing.T) {
	// Five have a seat: the sixth gets one, and is done once; the seventh gets none.
	l := full()[:15]
	sixth := list(l, called(9, 1, "x"), called(8, 1, "x"), done(9, 1, "x"))
	last(t, list(sixth, done(9, 1, "x")), 4)
	seventh := list(sixth, done(8, 1, "x"))
	last(t, list(seventh, done(8, 1, "x")), 0)
	last(t, list(seventh, done(9, 1, "x")), 4)
	last(t, list(seventh, answered(9, 1, wrong(api.BadCall)), answered(8, 1, wrong(api.Sessions))), 0)
	last(t, list(seventh, answered(8, 1, wrong(api.BadCall))), 5)
}

// Rule 5.

func TestAnsweredWasDone(t *testing.T) {
	last(t, []Event{answered(5, 1, "")}, 5)
	l := []Event{called(5, 1, makes("a"))}
	r := reply(l, done(5, 1, makes("a")))
	last(t, list(l, answered(5, 1, r)), 5)
	last(t, list(l, answered(5, 1, "")), 5)
	l = append(l, done(5, 1, makes("a")))
	last(t, list(l, answered(5, 1, r)), 0)
	for _, e := range []Event{answered(5, 2, r), answered(4, 1, r), answered(1, 5, r), answered(6, 1, r)} {
		last(t, list(l, e), 5)
	}
	// That another one's was done does not help.
	l = list(whole(nil, 5, 1, makes("a")), called(6, 1, makes("a")))
	last(t, list(l, answered(6, 1, wrong(api.Taken))), 5)
	// Nor that an earlier one of its own was.
	l = list(whole(nil, 5, 1, makes("a")), called(5, 2, makes("a")))
	last(t, list(l, answered(5, 2, wrong(api.Taken))), 5)
	last(t, list(l, answered(5, 1, r)), 5)
}

func TestAnsweredIsTheLastOneCalled(t *testing.T) {
	l := list(whole(nil, 5, 1, "x"), called(5, 2, "x"), done(5, 2, "x"))
	bad := wrong(api.BadCall)
	last(t, list(l, answered(5, 1, bad)), 5)
	last(t, list(l, answered(5, 3, bad)), 5)
	last(t, list(l, answered(5, 2, bad)), 0)
}

func TestAnsweredTwice(t *testing.T) {
	l := whole(nil, 5, 1, makes("a"))
	last(t, list(l, l[2]), 5)
	last(t, list(whole(l, 6, 1, "x"), l[2]), 5)
	last(t, list(l, called(5, 2, makes("a")), l[2]), 5)
}

func TestAnsweredAsTheServiceAnswers(t *testing.T) {
	// Both make a: who is done first has it.
	l := []Event{called(5, 1, makes("a")), called(6, 1, makes("a")), done(6, 1, makes("a")), done(5, 1, makes("a"))}
	made, _ := answer.Pack(api.Reply{H: api.Handle{No: 1, Gen: 1}, Attr: api.Attr{Kind: api.KindFile, Links: 1, Stamp: 1}})
	taken := wrong(api.Taken)
	last(t, list(l, answered(6, 1, made), answered(5, 1, taken)), 0)
	last(t, list(l, answered(5, 1, taken), answered(6, 1, made)), 0)
	for _, r := range []string{"", "x", taken, made[1:], made + "x", wrong(api.Sessions), makes("a")} {
		last(t, list(l, answered(6, 1, r)), 5)
	}
	for _, r := range []string{"", "x", made, taken[1:], taken + "x", wrong(api.Sessions), makes("a")} {
		last(t, list(l, answered(5, 1, r)), 5)
	}
}

func TestAnsweredWithoutASeat(t *testing.T) {
	l := list(full(), called(9, 1, makes("z")), done(9, 1, makes("z")))
	last(t, list(l, answered(9, 1, wrong(api.Sessions))), 0)
	last(t, list(l, answered(9, 1, wrong(api.BadCall))), 5)
	last(t, list(l, answered(9, 1, "")), 5)
	last(t, list(l, answered(9, 1, reply(nil, done(9, 1, makes("z"))))), 5)
}

// Several rules, several events.

func TestTwoRulesBrokenByOneEvent(t *testing.T) {
	l := whole(whole(nil, 5, 1, "x"), 5, 2, "y")
	// Of 1 and each of the others.
	last(t, list(l, called(5, 0, "x")), 1)
	last(t, list(l, called(5, 1, strings.Repeat("x", 4097))), 1)
	last(t, list(l, done(5, 0, "x")), 1)
	last(t, list(l, done(5, 2, strings.Repeat("x", 4097))), 1)
	last(t, list(l, answered(-1, 1, "x")), 1)
	// Of 3 and 4.
	last(t, list(l, done(5, 1, "y")), 3)
	last(t, list(l, done(5, 2, "x")), 3)
	last(t, list(l, done(5, 2, "y")), 4)
	// Of 2 it is one rule, not two: it does not rise, and the one ahead was not answered.
	last(t, list(l, called(5, 3, "x"), called(5, 3, "x")), 2)
}

func TestTwoEventsThatBreakRules(t *testing.T) {
	l := whole(nil, 5, 1, "x")
	bad := []Event{1: {}, 2: called(5, 1, "x"), 3: done(5, 2, "x"), 4: done(5, 1, "x"), 5: answered(5, 1, wrong(api.BadCall))}
	for first := 1; first <= 5; first++ {
		for second := 1; second <= 5; second++ {
			breaks(t, list(l, bad[first], bad[second]), first, 3)
			breaks(t, list(l, bad[first], called(6, 1, "x"), bad[second]), first, 3)
			breaks(t, list(l, called(6, 1, "x"), bad[first], bad[second]), first, 4)
		}
	}
}

func TestSeveralClientsAtOnce(t *testing.T) {
	a, b, c := makes("a"), makes("b"), makes("c")
	l := []Event{called(3, 1, a), called(4, 1, b), called(5, 1, c), done(5, 1, c), done(3, 1, a)}
	five, three := reply(nil, l[3]), reply(l[:4], l[4])
	l = append(l, answered(3, 1, three), called(3, 2, b), done(4, 1, b), done(3, 2, b))
	four := reply(l[:7], l[7])
	l = append(l, answered(5, 1, five), answered(3, 2, wrong(api.Taken)), answered(4, 1, four))
	last(t, l, 0)
	last(t, list(l, called(3, 3, a), called(4, 2, a), called(5, 2, a)), 0)
	// What one did the other did not.
	breaks(t, list(l[:5], answered(4, 1, four)), 5, 5)
	breaks(t, list(l[:5], done(4, 1, a)), 3, 5)
	breaks(t, list(l[:5], called(4, 2, a)), 2, 5)
	breaks(t, list(l[:5], answered(3, 1, five)), 5, 5)
	breaks(t, list(l[:5], answered(5, 1, three)), 5, 5)
}

// 26.2

func TestOpen(t *testing.T) {
	opens(t, nil)
	opens(t, []Event{})
	a, b, c := called(5, 1, "x"), called(6, 1, "y"), called(5, 2, "z")
	opens(t, []Event{a}, a)
	opens(t, []Event{a, b}, a, b)
	opens(t, []Event{b, a}, b, a)
	opens(t, []Event{a, done(5, 1, "x")}, a)
	opens(t, []Event{done(5, 1, "x")})
	opens(t, []Event{a, done(5, 1, "x"), answered(5, 1, "r")})
	opens(t, []Event{a, b, answered(5, 1, "r")}, b)
	opens(t, []Event{a, b, answered(5, 1, "r"), c}, b, c)
	opens(t, []Event{a, answered(5, 1, "r"), c, b}, c, b)
	opens(t, []Event{a, answered(5, 1, "r"), c, answered(5, 2, "r")})
}

// Of a list that breaks rules, too, it is the last call and what is behind it.
func TestOpenOfListsThatBreakRules(t *testing.T) {
	a, c := called(5, 1, "x"), called(5, 2, "z")
	opens(t, []Event{answered(5, 1, "r")})
	opens(t, []Event{answered(5, 1, "r"), a}, a)
	opens(t, []Event{a, c}, c)
	opens(t, []Event{c, a}, a)
	opens(t, []Event{a, c, answered(5, 1, "r")}, c)
	opens(t, []Event{a, c, answered(5, 2, "r")})
	opens(t, []Event{a, answered(5, 2, "r")}, a)
	opens(t, []Event{a, answered(6, 1, "r")}, a)
	opens(t, []Event{a, answered(5, 1, "r"), answered(5, 1, "s")})
	opens(t, []Event{a, answered(5, 1, "r"), a}, a)
	opens(t, []Event{a, a}, a)
	opens(t, []Event{c, answered(5, 2, "r"), a}, a)
	opens(t, []Event{{Kind: Called, Client: -1}, {Kind: 0, Client: -1}, {Kind: 4, Client: -1}}, Event{Kind: Called, Client: -1})
	opens(t, []Event{{Kind: Called}, {Kind: Answered}})
	opens(t, []Event{{Kind: 0}, {Kind: 4}})
	// An event of the same client at place 0 is no Called of it.
	opens(t, []Event{done(5, 1, "x"), a, answered(5, 1, "r")})
}

func TestItems(t *testing.T) {
	check := func(l []Event, want ...api.Item) {
		t.Helper()
		old := slices.Clone(l)
		if got := Items(l); !slices.Equal(got, want) {
			t.Errorf("Items(%v): %v, want %v", l, got, want)
		}
		if !slices.Equal(l, old) {
			t.Errorf("Items changed the list")
		}
	}
	check(nil)
	check([]Event{})
	check([]Event{called(5, 1, "x"), answered(5, 1, "x"), {}, {Kind: 4}})
	x, y := api.Item{Client: 5, Req: 1, Body: "x"}, api.Item{Client: 6, Req: 9, Body: ""}
	check([]Event{done(5, 1, "x")}, x)
	check([]Event{done(5, 1, "x"), done(6, 9, "")}, x, y)
	check([]Event{done(6, 9, ""), done(5, 1, "x"), done(6, 9, "")}, y, x, y)
	check([]Event{called(5, 1, "x"), done(5, 1, "x"), called(6, 9, ""), answered(5, 1, "r"), done(6, 9, "")}, x, y)
	check([]Event{{Kind: Done, Client: -1, Req: -2}}, api.Item{Client: -1, Req: -2})
}

// R3

func TestNewMemory(t *testing.T) {
	l := []Event{called(5, 1, "x"), done(5, 1, "x"), called(6, 1, "y")}
	room := append(make([]Event, 0, 9), l...)
	got := Open(room)
	got[0].Body = "changed"
	_ = append(got, Event{Kind: 9})
	items := Items(room)
	items[0].Body = "changed"
	_ = append(items, api.Item{Client: 9})
	if !slices.Equal(room, l) || room[:4][3] != (Event{}) {
		t.Errorf("the list was changed: %v", room)
	}
	if got := Open(room); got[0] != l[0] {
		t.Errorf("Open: %v", got)
	}
	if got := Items(room); got[0].Body != "x" {
		t.Errorf("Items: %v", got)
	}
}

// The chapter's example.

func TestExample(t *testing.T) {
	breaks(t, []Event{called(5, 1, makes("a")), answered(5, 1, reply(nil, done(5, 1, makes("a"))))}, 5, 1)
}
