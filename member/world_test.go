package member

import (
	"slices"
	"strings"
	"testing"

	"sexton/answer"
	"sexton/api"
	"sexton/ask"
	"sexton/mach"
	"sexton/memo"
	"sexton/panel"
)

// user is a client as chapter 25 has it: one call at a time, asked again until it is answered.
type user struct {
	id, req, view, target int
	body                  string
	waits, told           bool
}

func (u *user) letter() mail {
	s, _ := memo.Pack(memo.Memo{Kind: memo.Request, Client: u.id, Op: u.req, Data: u.body})
	u.told = false
	return mail{from: u.id, to: u.target, text: s}
}

// world is a cluster with clients, in which chance chooses what happens, and what is committed is written down.
type world struct {
	t        *testing.T
	seed     int
	n, f     int
	chance   chance
	members  []*Member
	nonces   []int
	users    []*user
	post     []mail
	stands   []Stand     // behind the last step
	history  []api.Item  // all that was committed
	views    []int       // in which view the member was of whose Commit the history had each item
	states   []api.State // behind each operation
	replies  map[[2]int]string
	answered int
	steps    int
	newest   bool // whether the newest letters come first, so that old ones come late
	held     int  // a set of nodes whose letters wait
	reckless bool // whether more nodes may be down than f: then little is promised
	big      bool // whether calls have many bytes, so that logs are full
}

const users = 4

func newWorld(t *testing.T, n, seed int) *world {
	w := &world{t: t, n: n, f: n / 2, seed: seed, chance: chance(seed*8 + n), states: []api.State{mach.New()}, replies: map[[2]int]string{}}
	for id := range n {
		x, e := New(id, n)
		if e != api.OK {
			t.Fatal(e)
		}
		w.members = append(w.members, x)
		w.nonces = append(w.nonces, 0)
		w.stands = append(w.stands, x.Stand())
	}
	for i := range users {
		w.users = append(w.users, &user{id: n + i})
	}
	return w
}

func (w *world) fail(format string, args ...any) {
	w.t.Helper()
	w.t.Fatalf("n %d, seed %d, step %d: "+format, append([]any{w.n, w.seed, w.steps}, args...)...)
}

// down is how many nodes are not up, or recovering.
func (w *world) down() int {
	count := 0
	for _, x := range w.members {
		if s := x.Stand(); !s.Up || s.Status == Recovering {
			count++
		}
	}
	return count
}

func (w *world) send(from int, l []Out) {
	for _, o := range l {
		if len(w.post) < 2048 {
			w.post = append(w.post, mail{from, o.To, o.Text})
		}
	}
}

// deliver brings the letter at a place to whom it is for.
func (w *world) deliver(i int) {
	y := w.post[i]
	w.post = slices.Delete(w.post, i, i+1)
	w.bring(y)
}

func (w *world) bring(y mail) {
	if y.to < w.n {
		w.send(y.to, w.members[y.to].Letter(y.from, y.text))
		w.look(y.to)
		return
	}
	w.hear(w.users[y.to-w.n], y.text)
}

// hear is what a client does with a letter; it is answered what the history answers.
func (w *world) hear(u *user, text string) {
	m, e := memo.Unpack(text)
	if e != api.OK {
		return // it was turned
	}
	if m.Kind != memo.Told || m.Client != u.id {
		w.fail("client %d was told %v", u.id, m)
	}
	if m.Op == 0 {
		if m.View >= u.view {
			u.view, u.told = m.View, true
			u.target, _ = panel.Primary(w.n, m.View)
		}
		return
	}
	if w.reckless {
		return
	}
	want, done := w.replies[[2]int{u.id, m.Op}]
	if !done || want != m.Data {
		w.fail("client %d was answered %q of request %d, want %q (done %v)", u.id, m.Data, m.Op, want, done)
	}
	if _, e := answer.Unpack(m.Data); e != api.OK {
		w.fail("no reply: %q", m.Data)
	}
	if u.waits && m.Op == u.req {
		u.waits = false
		w.answered++
	}
}

// call has a client make a call, if it waits for none.
func (w *world) call(u *user) {
	if u.waits {
		return
	}
	u.body, _ = ask.Pack(w.someCall())
	u.req++
	u.waits = true
	w.post = append(w.post, u.letter())
}

// retry has a client ask again.
func (w *world) retry(u *user) {
	if !u.waits {
		return
	}
	if !u.told {
		u.target = (u.target + 1) % (w.f + 1)
	}
	w.post = append(w.post, u.letter())
}

func (w *world) someCall() api.Call {
	if w.big {
		return api.Call{Kind: api.CallWrite, Data: strings.Repeat("x", 900+w.chance.below(100))}
	}
	root := api.Handle{No: 0, Gen: 1}
	some := api.Handle{No: 1 + w.chance.below(4), Gen: 1 + w.chance.below(2)}
	name := string(rune('a' + w.chance.below(5)))
	switch w.chance.below(8) {
	case 0, 1:
		return api.Call{Kind: api.CallMake, H: root, Name: name}
	case 2:
		return api.Call{Kind: api.CallFolder, H: root, Name: name}
	case 3:
		return api.Call{Kind: api.CallUnlink, H: root, Name: name}
	case 4:
		return api.Call{Kind: api.CallList, H: root, N: 8}
	case 5:
		return api.Call{Kind: api.CallOpen, H: some}
	case 6:
		return api.Call{Kind: api.CallRead, H: some, N: 100}
	}
	return api.Call{Kind: api.CallWrite, H: some, At: w.chance.below(3000), Data: strings.Repeat(name, 1+w.chance.below(500))}
}

// What may happen in a world.
const (
	call = iota
	retry
	deliver
	lose
	again
	turnBit
	tick
	storm
	hold
	crash
	start
	revive
	trimLog
	kinds
)

// mix is how often each happens: in some worlds much crashes, in others much is late.
func (w *world) mix() [kinds]int {
	m := [kinds]int{call: 8, retry: 4, deliver: 56, lose: 4, again: 3, turnBit: 1, tick: 16, crash: 2, start: 4, trimLog: 2}
	w.newest = w.chance.below(2) == 0
	switch w.chance.below(5) {
	case 0:
		return m
	case 4:
		m[storm], m[crash], m[start], m[revive], m[lose], m[deliver] = 2, 4, 0, 8, 0, 20
	case 1:
		m[storm], m[crash], m[start] = 2, 4, 6
	case 2:
		m[hold], m[storm] = 3, 1
	case 3:
		for i := range m {
			m[i] = 1 + w.chance.below(10)
		}
		m[deliver] += 20
	}
	return m
}

// pick is what happens next.
func (w *world) pick(m [kinds]int) int {
	sum := 0
	for _, x := range m {
		sum += x
	}
	at := w.chance.below(sum)
	for i, x := range m {
		if at < x {
			return i
		}
		at -= x
	}
	return deliver
}

// step is something that chance chooses, under which no more than f nodes are down.
func (w *world) step(m [kinds]int) {
	w.steps++
	node := w.chance.below(w.n)
	x := w.members[node]
	switch w.pick(m) {
	case call:
		w.call(w.users[w.chance.below(users)])
	case retry:
		w.retry(w.users[w.chance.below(users)])
	case deliver:
		w.deliverSome()
	case lose:
		if len(w.post) > 0 {
			i := w.chance.below(len(w.post))
			w.post = slices.Delete(w.post, i, i+1)
		}
	case again:
		if len(w.post) > 0 && len(w.post) < 2048 {
			w.post = append(w.post, w.post[w.chance.below(len(w.post))])
		}
	case turnBit:
		if len(w.post) > 0 {
			y := &w.post[w.chance.below(len(w.post))]
			y.text = turned(y.text, w.chance.below(8*len(y.text)), 1)
		}
	case tick:
		w.tick(node)
	case storm:
		for range 1 + w.chance.below(30) {
			w.tick(node)
		}
	case hold:
		w.held = w.chance.below(1 << w.n)
		if w.chance.below(2) == 0 {
			w.held = 0
		}
	case crash:
		if s := x.Stand(); s.Up && (w.down() < w.f || s.Status == Recovering || w.reckless) {
			x.Crash()
			w.look(node)
		}
	case start:
		w.nonces[node] += 1 + w.chance.below(3)
		if out, e := x.Start(w.nonces[node]); e == api.OK {
			w.send(node, out)
			w.look(node)
		}
	case revive:
		w.revive(node)
	case trimLog:
		w.send(node, x.Trim())
		w.look(node)
	}
}

// revive starts a node, and delivers at once what it asks and is told, ahead of all that was sent in its earlier life.
func (w *world) revive(node int) {
	w.nonces[node]++
	out, e := w.members[node].Start(w.nonces[node])
	if e != api.OK {
		return
	}
	late := w.post
	w.post = nil
	w.send(node, out)
	w.look(node)
	for range 4 {
		for len(w.post) > 0 {
			w.deliver(0)
		}
		if w.members[node].Stand().Status == Recovering {
			w.tick(node)
		}
	}
	w.post = append(late, w.post...)
}

func (w *world) tick(node int) {
	w.send(node, w.members[node].Tick())
	w.look(node)
}

// deliverSome delivers a letter that is not held: often the oldest one, so that there is progress.
func (w *world) deliverSome() {
	var places []int
	for i, y := range w.post {
		if w.held>>y.from&1 == 0 && w.held>>y.to&1 == 0 {
			places = append(places, i)
		}
	}
	if len(places) == 0 {
		return
	}
	i := 0
	if w.newest {
		i = len(places) - 1
	}
	if w.chance.below(2) == 0 {
		i = w.chance.below(len(places))
	}
	w.deliver(places[i])
}

// look holds a member that did something against all promises.
func (w *world) look(node int) {
	x := w.members[node]
	s, was := x.Stand(), w.stands[node]
	w.stands[node] = s
	holds(w.t, x, was, "a world")
	if w.reckless || !s.Up {
		return
	}
	items := x.Items()
	if cost(items) > MaxLog {
		w.fail("%d has a log of %d", node, cost(items))
	}
	w.write(s, items)
	w.compare(node, s, items)
	if node <= w.f && s.Status != Recovering && (s.Applied != was.Applied || s.Status != was.Status) {
		if !sameState(x.State(), w.states[s.Applied]) {
			w.fail("%d has another state behind %d", node, s.Applied)
		}
	}
}

// write writes down what a member committed first.
func (w *world) write(s Stand, items []api.Item) {
	if s.Commit <= len(w.history) || s.Base > len(w.history) {
		return
	}
	for _, y := range items[len(w.history)-s.Base : s.Commit-s.Base] {
		next, reply, e := mach.Do(w.states[len(w.states)-1], y)
		if e != api.OK {
			w.fail("%v", e)
		}
		key := [2]int{y.Client, y.Req}
		if _, again := w.replies[key]; again {
			w.fail("%v was committed twice", y)
		}
		w.replies[key] = reply
		w.states = append(w.states, next)
		w.history = append(w.history, y)
		w.views = append(w.views, s.View)
	}
}

// compare holds a log against the history: what is committed there, and what a leader must have.
func (w *world) compare(node int, s Stand, items []api.Item) {
	for i, y := range w.history {
		place := i - s.Base
		if place < 0 {
			continue
		}
		if i < s.Commit && items[place] != y {
			w.fail("%d has %v as %d, which is %v", node, items[place], i+1, y)
		}
		primary, _ := panel.Primary(w.n, s.View)
		if leads := s.Status == Normal && primary == node; leads && s.View >= w.views[i] && (place >= len(items) || items[place] != y) {
			w.fail("%d leads without %d: %v", node, i+1, s)
		}
	}
}

// calm is up to 300 rounds in which all tick and all letters come; then all calls are answered, and nobody recovers any more. Letters that are sent within a round come in it, or, if slow, in the next one.
func (w *world) calm(slow bool) int {
	if w.big {
		w.startAll()
	}
	for round := range 300 {
		if w.isQuiet() {
			return round
		}
		w.steps++
		for node, x := range w.members {
			w.send(node, x.Tick())
			w.look(node)
			if w.big {
				w.send(node, x.Trim())
				w.look(node)
			}
		}
		for _, u := range w.users {
			w.retry(u)
		}
		if slow {
			now := w.post
			w.post = nil
			for _, y := range now {
				w.bring(y)
			}
			continue
		}
		for len(w.post) > 0 {
			w.deliver(0)
		}
	}
	if !w.isQuiet() {
		for node, x := range w.members {
			w.t.Logf("%d: %+v", node, x.Stand())
		}
		w.fail("it does not go on: slow %v", slow)
	}
	return 300
}

// startAll starts all that are not up: while one is down, full logs cannot be trimmed.
func (w *world) startAll() {
	for node, x := range w.members {
		w.nonces[node]++
		if out, e := x.Start(w.nonces[node]); e == api.OK {
			w.send(node, out)
			w.look(node)
		}
	}
}

// isQuiet tells whether no client waits, and all that are up are normal in one view.
func (w *world) isQuiet() bool {
	if slices.ContainsFunc(w.users, func(u *user) bool { return u.waits }) {
		return false
	}
	view := -1
	for _, x := range w.members {
		s := x.Stand()
		if !s.Up {
			continue
		}
		if s.Status != Normal || view >= 0 && s.View != view {
			return false
		}
		view = s.View
	}
	return true
}

func TestWorlds(t *testing.T) {
	for _, n := range []int{1, 3, 5, 7} {
		answered, most, changed, trimmed := 0, 0, 0, 0
		for seed := range 40 {
			w := newWorld(t, n, seed)
			w.big = w.chance.below(4) == 0
			for range 3 {
				m := w.mix()
				for range 300 + w.chance.below(500) {
					w.step(m)
				}
				w.held = 0
				most = max(most, w.calm(w.chance.below(2) == 0))
			}
			answered += w.answered
			for _, s := range w.stands {
				changed = max(changed, s.View)
				trimmed = max(trimmed, s.Base)
			}
		}
		if answered < 500 || trimmed == 0 || n > 1 && changed == 0 {
			t.Errorf("n %d: little happens", n)
		}
		t.Logf("n %d: %d answered, at most %d rounds, views up to %d, trimmed up to %d", n, answered, most, changed, trimmed)
	}
}

// The same does the same.
func TestSameAgain(t *testing.T) {
	for seed := range 5 {
		var posts [2][]mail
		var stands [2][]Stand
		for i := range 2 {
			w := newWorld(t, 5, seed)
			m := w.mix()
			for range 400 {
				w.step(m)
			}
			posts[i], stands[i] = w.post, w.stands
		}
		if !slices.Equal(posts[0], posts[1]) || !slices.Equal(stands[0], stands[1]) {
			t.Errorf("seed %d: something else happened", seed)
		}
	}
}

// Where more nodes are down than f, what was committed may be lost; what 24.4 says holds still.
func TestRecklessWorlds(t *testing.T) {
	for _, n := range []int{1, 3, 5, 7} {
		for seed := range 40 {
			w := newWorld(t, n, 1000+seed)
			w.reckless = true
			m := w.mix()
			m[crash], m[revive] = 3, 3
			for range 600 {
				w.step(m)
			}
		}
	}
}
