package ring

import (
	"fmt"
	"reflect"
	"slices"
	"strings"
	"testing"

	"sexton/api"
	"sexton/mach"
	"sexton/member"
	"sexton/panel"
	"sexton/watch"
)

// trial is a ring whose script chance writes, held against the promises behind each choice.
type trial struct {
	t        *testing.T
	name     string
	chance   chance
	n, f     int
	ring     *Ring
	script   []api.Choice
	events   []watch.Event
	history  []api.Item
	views    []int       // of each item of the history: the view of the member of whose Commit it was had first
	states   []api.State // behind each operation
	stands   []member.Stand
	broken   bool
	sound    int  // how many events were told while it was not broken
	lives    int  // how many times a node recovered
	moved    int  // how many of these were told a state
	reckless bool // whether more than f nodes may be down
	newest   bool // whether the newest letters come first, so that old ones come late
	held     int  // a set of nodes and clients whose letters wait
	big      bool // whether calls have many bytes
	nonces   []int
	twins    map[int]bool // letters that stay, as if they came twice
}

func newTrial(t *testing.T, n, seed int) *trial {
	x := &trial{t: t, name: fmt.Sprintf("n %d, seed %d", n, seed), chance: chance(seed*8 + n), n: n, f: n / 2, ring: made(t, n), states: []api.State{mach.New()}}
	x.nonces = make([]int, n)
	x.twins = map[int]bool{}
	for i := range n {
		x.stands = append(x.stands, x.ring.Stand(i))
	}
	return x
}

func (x *trial) fail(format string, args ...any) {
	x.t.Helper()
	x.t.Fatalf("%s, choice %d: "+format, append([]any{x.name, len(x.script)}, args...)...)
}

// step has a choice happen, and looks at all that is promised behind it.
func (x *trial) step(c api.Choice) {
	x.t.Helper()
	x.script = append(x.script, c)
	had := len(x.history)
	events := x.ring.Step(c)
	x.events = append(x.events, events...)
	var changed []int
	for i := range x.n {
		if x.see(i) {
			changed = append(changed, i)
		}
	}
	x.count()
	x.write(events)
	if x.broken {
		return
	}
	x.sound = len(x.events)
	// To look at all of them each time would take long: who stands as it stood is looked at now and then.
	if len(x.history) > had || len(x.script)%16 == 0 {
		changed = nil
		for i := range x.n {
			changed = append(changed, i)
		}
	}
	for _, i := range changed {
		x.compare(i)
	}
}

// see looks how a member stands, and whether it has recovered; it tells whether it stands otherwise than before.
func (x *trial) see(i int) bool {
	was, s := x.stands[i], x.ring.Stand(i)
	x.stands[i] = s
	if was.Status == member.Recovering && s.Status == member.Normal {
		x.lives++
		if s.Base > 0 && i <= x.f {
			x.moved++
		}
	}
	return s != was
}

// down is how many nodes are not up, or recovering.
func (x *trial) down() int {
	count := 0
	for _, s := range x.stands {
		if !s.Up || s.Status == member.Recovering {
			count++
		}
	}
	return count
}

// count holds Down and Broken against how the members stand.
func (x *trial) count() {
	x.t.Helper()
	x.broken = x.broken || x.down() > x.f
	if x.ring.Down() != x.down() || x.ring.Broken() != x.broken {
		x.fail("down %d, %v, want %d, %v", x.ring.Down(), x.ring.Broken(), x.down(), x.broken)
	}
}

// write goes on with the history as the chapter has it, and holds H and the events against it.
func (x *trial) write(events []watch.Event) {
	x.t.Helper()
	var more []watch.Event
	for i, s := range x.stands {
		if !s.Up || s.Commit <= len(x.history) || s.Base > len(x.history) {
			continue
		}
		for _, y := range x.ring.Items(i)[len(x.history)-s.Base : s.Commit-s.Base] {
			x.history = append(x.history, y)
			x.views = append(x.views, s.View)
			next, _, e := mach.Do(x.states[len(x.states)-1], y)
			if e != api.OK {
				x.fail("%v", e)
			}
			x.states = append(x.states, next)
			more = append(more, done(y.Client, y.Req, y.Body))
		}
	}
	var told []watch.Event
	for _, e := range events {
		if e.Kind == watch.Done {
			told = append(told, e)
		}
	}
	if !slices.Equal(told, more) {
		x.fail("%v was done, want %v", told, more)
	}
	if h := x.ring.H(); len(h) != len(x.history) || len(more) > 0 && !slices.Equal(h, x.history) {
		x.fail("another history")
	}
}

// compare holds a member against 27.3 to 27.6.
func (x *trial) compare(i int) {
	x.t.Helper()
	s, state := x.stands[i], x.ring.State(i)
	switch {
	case i > x.f || !s.Up || s.Status == member.Recovering:
		if !isZero(state) {
			x.fail("%d has a state: %+v", i, s)
		}
	case s.Applied > len(x.history):
		x.fail("%d has applied %d of %d", i, s.Applied, len(x.history))
	case !sameState(state, x.states[s.Applied]):
		x.fail("%d has another state behind %d", i, s.Applied)
	}
	if s.Up {
		x.compareLog(i, s, x.ring.Items(i))
	}
}

func (x *trial) compareLog(i int, s member.Stand, items []api.Item) {
	x.t.Helper()
	if s.Commit > len(x.history) || s.Last-s.Base != len(items) {
		x.fail("%d: %+v, %d items, history %d", i, s, len(items), len(x.history))
	}
	primary, _ := panel.Primary(x.n, s.View)
	leads := s.Status == member.Normal && primary == i
	for at := s.Base; at < len(x.history); at++ {
		place := at - s.Base
		if at < s.Commit && items[place] != x.history[at] {
			x.fail("%d has %v as %d, which is %v", i, items[place], at+1, x.history[at])
		}
		if leads && s.View >= x.views[at] && (place >= len(items) || items[place] != x.history[at]) {
			x.fail("%d leads without %d: %+v", i, at+1, s)
		}
	}
}

// What may happen in a trial, beside single choices.
const (
	storm  = 20 + iota // a node ticks many times
	hold               // letters of some wait
	revive             // a node starts, and what it asks and is told comes ahead of all else
	wild               // a choice of any kind, with any numbers
)

// mix is how often what happens: in some trials much crashes, in others much is late.
func (x *trial) mix() map[int]int {
	m := map[int]int{api.DoCall: 8, api.DoRetry: 4, api.DoDeliver: 56, api.DoLose: 4, api.DoAgain: 3, api.DoTick: 16, api.DoCrash: 2, api.DoStart: 4, api.DoTrim: 2, wild: 1}
	x.newest = x.chance.below(2) == 0
	switch x.chance.below(5) {
	case 1:
		m[storm], m[api.DoCrash], m[api.DoStart] = 2, 4, 6
	case 2:
		m[hold], m[storm] = 3, 1
	case 3:
		for kind := api.DoCall; kind <= api.DoTrim; kind++ {
			m[kind] = 1 + x.chance.below(10)
		}
		m[api.DoDeliver] += 20
	case 4:
		m[storm], m[api.DoCrash], m[api.DoStart], m[revive], m[api.DoLose], m[api.DoDeliver] = 2, 4, 0, 8, 0, 20
	}
	return m
}

func (x *trial) pick(m map[int]int) int {
	sum := 0
	for kind := range 30 {
		sum += m[kind]
	}
	at := x.chance.below(sum)
	for kind := range 30 {
		if at < m[kind] {
			return kind
		}
		at -= m[kind]
	}
	panic("nothing")
}

// happen has something happen that chance chooses.
func (x *trial) happen(m map[int]int) {
	x.t.Helper()
	node, client := x.chance.below(x.n), x.chance.below(Clients)
	switch kind := x.pick(m); kind {
	case api.DoCall:
		x.step(call(client, x.someCall()))
	case api.DoDeliver:
		if i := x.someLetter(); i >= 0 {
			x.step(deliver(i))
		}
	case api.DoLose, api.DoAgain:
		x.step(api.Choice{Kind: kind, N: x.chance.below(1 + len(x.ring.Waiting()))})
	case api.DoCrash:
		if x.mayCrash(node) {
			x.step(crash(node))
		}
	case api.DoStart:
		x.nonces[node] += x.chance.below(3)
		x.step(start(node, x.nonces[node]))
	case storm:
		for range 1 + x.chance.below(30) {
			x.step(tick(node))
		}
	case hold:
		x.held = x.chance.below(2) * x.chance.below(1<<(x.n+Clients))
	case revive:
		x.revive(node)
	case wild:
		x.step(x.anyChoice())
	default:
		x.step(api.Choice{Kind: kind, Node: node, Client: client})
	}
}

// mayCrash tells whether a crash of that node leaves at most f nodes down.
func (x *trial) mayCrash(node int) bool {
	s := x.stands[node]
	return x.reckless || !s.Up || s.Status == member.Recovering || x.down() < x.f
}

// anyChoice is a choice of any kind, with any numbers; no crash that breaks the premise.
func (x *trial) anyChoice() api.Choice {
	number := func() int {
		return []int{-1 << 40, -1, 0, 1, 2, 3, 4, x.n - 1, x.n, x.n + 3, 2047, 2048, 1<<40 + 1}[x.chance.below(13)]
	}
	c := api.Choice{Kind: x.chance.below(12) - 1, Node: number(), N: number(), Client: number(), Call: x.someCall()}
	if x.chance.below(2) == 0 {
		c.Call.Kind = number()
	}
	if c.Kind == api.DoCrash && 0 <= c.Node && c.Node < x.n && !x.mayCrash(c.Node) {
		c.Kind = 77
	}
	return c
}

// revive starts a node, and delivers at once what it asks and is told, ahead of all that was sent in its earlier life.
func (x *trial) revive(node int) {
	x.t.Helper()
	x.nonces[node]++
	from := len(x.ring.Waiting())
	x.step(start(node, x.nonces[node]))
	for range 4 {
		for len(x.ring.Waiting()) > from {
			x.step(deliver(from))
		}
		if x.stands[node].Status == member.Recovering {
			x.step(tick(node))
		}
	}
}

// someLetter is the place of a letter that is not held: often the oldest or newest one; -1, if there is none.
func (x *trial) someLetter() int {
	var places []int
	for i, y := range letters(x.ring) {
		if x.held>>y.From&1 == 0 && x.held>>y.To&1 == 0 {
			places = append(places, i)
		}
	}
	switch {
	case len(places) == 0:
		return -1
	case x.chance.below(2) == 0:
		return places[x.chance.below(len(places))]
	case x.newest:
		return places[len(places)-1]
	}
	return places[0]
}

// someCall is a call, such as a client would make, or one that the service refuses.
func (x *trial) someCall() api.Call {
	some := api.Handle{No: x.chance.below(6), Gen: 1 + x.chance.below(2)}
	folder := root
	if x.chance.below(3) == 0 {
		folder = some
	}
	name, other := string(rune('a'+x.chance.below(6))), string(rune('a'+x.chance.below(6)))
	if x.big {
		return api.Call{Kind: api.CallWrite, H: some, Data: strings.Repeat(name, 900+x.chance.below(100))}
	}
	switch kind := 1 + x.chance.below(16); kind {
	case api.CallLook, api.CallFolder, api.CallUnlink, api.CallRmdir:
		return api.Call{Kind: kind, H: folder, Name: name}
	case api.CallAttr, api.CallOpen:
		return api.Call{Kind: kind, H: some}
	case api.CallRead, api.CallList:
		return api.Call{Kind: kind, H: some, N: 1 + x.chance.below(100)}
	case api.CallWrite, api.CallCut:
		c := api.Call{Kind: kind, H: some, At: x.chance.below(3000)}
		if kind == api.CallWrite {
			c.Data = strings.Repeat(name, 1+x.chance.below(500))
		}
		return c
	case api.CallLink:
		return api.Call{Kind: kind, H: some, H2: folder, Name: name}
	case api.CallRename:
		return api.Call{Kind: kind, H: folder, H2: root, Name: name, Name2: other}
	case api.CallClose:
		return api.Call{Kind: kind, N: x.chance.below(4)}
	}
	return api.Call{Kind: api.CallMake, H: folder, Name: name}
}

// How letters come in a round.
const (
	oldest  = iota // the oldest first, till nothing waits
	newest         // the newest first, till nothing waits
	shuffle        // in any order, till nothing waits
	slow           // those that wait when it begins; what they have others send comes in the next one
	orders
)

// calm is rounds of ticks and deliveries until all is quiet: how many; it fails, if that takes more than 300.
func (x *trial) calm(order int) int {
	x.t.Helper()
	for count := range 301 {
		if x.isQuiet() {
			return count
		}
		if count == 300 {
			break
		}
		for node := range x.n {
			x.step(tick(node))
			if x.big {
				x.step(trim(node))
			}
		}
		for client := range Clients {
			x.step(retry(client))
		}
		x.come(order)
	}
	x.fail("it does not go on: order %d, %+v", order, x.stands)
	return 0 // fail does not come back
}

// come has all letters come.
func (x *trial) come(order int) {
	x.t.Helper()
	if order == slow {
		for range x.ring.Waiting() {
			x.step(deliver(0))
		}
		return
	}
	for {
		count := len(x.ring.Waiting())
		if count == 0 {
			return
		}
		at := []int{0, count - 1, x.chance.below(count)}[order]
		x.step(deliver(at))
	}
}

// isQuiet tells whether no call is under way, and no node recovers.
func (x *trial) isQuiet() bool {
	for _, s := range x.ring.stubs {
		if _, under := s.Under(); under {
			return false
		}
	}
	for _, s := range x.stands {
		if s.Up && s.Status == member.Recovering {
			return false
		}
	}
	return true
}

// startAll starts all that are not up: while one is down, full logs cannot be trimmed.
func (x *trial) startAll() {
	x.t.Helper()
	for node, s := range x.stands {
		if !s.Up {
			x.nonces[node]++
			x.step(start(node, x.nonces[node]))
		}
	}
}

// same has the same script happen to another ring: it does the same.
func (x *trial) same() {
	x.t.Helper()
	other := made(x.t, x.n)
	if events := does(other, x.script...); !slices.Equal(events, x.events) {
		x.fail("the same choices told something else")
	}
	if !reflect.DeepEqual(see(other), see(x.ring)) {
		x.fail("the same choices did something else")
	}
}

// keeps holds the events that were told while the premise held against the rules of chapter 26.
func (x *trial) keeps() {
	x.t.Helper()
	if rule, at, e := watch.Check(x.events[:x.sound]); rule != 0 || e != api.OK {
		x.fail("rule %d is broken by %d, %v", rule, at, e)
	}
}

// tellings is what trials had happen.
type tellings struct{ answered, views, trimmed, rounds, lives, moved int }

func (y *tellings) add(x *trial) {
	for _, e := range x.events {
		if e.Kind == watch.Answered {
			y.answered++
		}
	}
	y.lives += x.lives
	y.moved += x.moved
	for _, s := range x.stands {
		y.views = max(y.views, s.View)
		y.trimmed = max(y.trimmed, s.Base)
	}
}

// tries is trials of n nodes with some seeds, in which never more than f nodes are down.
func tries(t *testing.T, n, from, to int) tellings {
	t.Helper()
	var y tellings
	for seed := from; seed < to; seed++ {
		x := newTrial(t, n, seed)
		x.big = x.chance.below(5) == 0
		for range 3 {
			m := x.mix()
			for range 200 + x.chance.below(400) {
				x.happen(m)
			}
			if x.big {
				x.startAll()
			}
			y.rounds = max(y.rounds, x.calm(x.chance.below(orders)))
			x.held = 0
		}
		x.keeps()
		y.add(x)
		if seed%8 == 0 {
			x.same()
		}
	}
	return y
}

// 27.2 to 27.8, P2, P3, P7
func TestTrials(t *testing.T) {
	for _, n := range []int{1, 3, 5, 7} {
		y := tries(t, n, 0, 40)
		if y.answered < 500 || y.trimmed < 5 || n > 1 && (y.views < 5 || y.lives < 100 || y.moved < 10) {
			t.Errorf("n %d: little happens: %+v", n, y)
		}
	}
}

// Where more than f nodes are down, that is told, and what was promised held until then.
func TestRecklessTrials(t *testing.T) {
	broken := 0
	for seed := range 120 {
		x := newTrial(t, []int{1, 3, 5, 7}[seed%4], 3000+seed)
		m := x.mix()
		for range 3 {
			for range 150 {
				x.happen(m)
			}
			x.reckless = true
		}
		x.keeps()
		if x.broken {
			broken++
		}
		if seed%8 == 0 {
			x.same()
		}
	}
	if broken < 50 {
		t.Errorf("only %d were broken", broken)
	}
}

// 27.7, P7: from any point of a script on, whatever the order in which letters come.
func TestGoesOn(t *testing.T) {
	for seed := range 24 {
		x := newTrial(t, []int{3, 5, 7}[seed%3], 4000+seed)
		m := x.mix()
		for range 10 {
			for range 40 {
				x.happen(m)
			}
			for order := range orders {
				y := newTrial(t, x.n, 9000+seed)
				for _, c := range x.script {
					y.step(c)
				}
				y.calm(order)
				y.keeps()
			}
		}
	}
}
