package ring

import (
	"reflect"
	"slices"
	"testing"

	"sexton/answer"
	"sexton/api"
	"sexton/ask"
	"sexton/member"
	"sexton/post"
	"sexton/stub"
	"sexton/watch"
)

// model is a second writing of the chapter: letters in a plain list, and one long function.
type model struct {
	n       int
	nodes   []*member.Member
	clients []*stub.Stub
	mail    []post.Letter
	last    int
	history []api.Item
	broken  bool
}

func newModel(n int) *model {
	m := &model{n: n}
	for i := range n {
		x, _ := member.New(i, n)
		m.nodes = append(m.nodes, x)
	}
	for i := range 4 {
		x, _ := stub.New(n+i, n)
		m.clients = append(m.clients, x)
	}
	return m
}

func (m *model) send(from, to int, text string) {
	if len(m.mail) < 2048 {
		m.last++
		m.mail = append(m.mail, post.Letter{Number: m.last, From: from, To: to, Body: text})
	}
}

func (m *model) step(x api.Choice) []watch.Event {
	var before, behind []watch.Event
	isNode, isClient, isLetter := 0 <= x.Node && x.Node < m.n, 0 <= x.Client && x.Client <= 3, 0 <= x.N && x.N < len(m.mail)
	var out []member.Out
	from := x.Node
	switch {
	case x.Kind == 1 && isClient:
		l, e := m.clients[x.Client].Call(x.Call)
		if e != api.OK {
			break
		}
		for _, o := range l {
			m.send(m.n+x.Client, o.To, o.Text)
		}
		req, _ := m.clients[x.Client].Under()
		body, _ := ask.Pack(x.Call)
		before = append(before, watch.Event{Kind: 1, Client: m.n + x.Client, Req: req, Body: body})
	case x.Kind == 2 && isClient:
		for _, o := range m.clients[x.Client].Tick() {
			m.send(m.n+x.Client, o.To, o.Text)
		}
	case x.Kind == 3 && isLetter:
		y := m.mail[x.N]
		m.mail = slices.Delete(m.mail, x.N, x.N+1)
		from = y.To
		if y.To < m.n {
			out = m.nodes[y.To].Letter(y.From, y.Body)
		} else if m.clients[y.To-m.n].Letter(y.From, y.Body) {
			a, _ := m.clients[y.To-m.n].Answer()
			body, _ := answer.Pack(a.Reply)
			behind = append(behind, watch.Event{Kind: 3, Client: y.To, Req: a.Req, Body: body})
		}
	case x.Kind == 4 && isLetter:
		m.mail = slices.Delete(m.mail, x.N, x.N+1)
	case x.Kind == 5 && isLetter:
		m.send(m.mail[x.N].From, m.mail[x.N].To, m.mail[x.N].Body)
	case x.Kind == 6 && isNode:
		out = m.nodes[x.Node].Tick()
	case x.Kind == 7 && isNode:
		m.nodes[x.Node].Crash()
	case x.Kind == 8 && isNode:
		out, _ = m.nodes[x.Node].Start(x.N)
	case x.Kind == 9 && isNode:
		out = m.nodes[x.Node].Trim()
	}
	for _, o := range out {
		m.send(from, o.To, o.Text)
	}
	for _, y := range m.nodes {
		s := y.Stand()
		if s.Up && s.Commit > len(m.history) && s.Base <= len(m.history) {
			for _, item := range y.Items()[len(m.history)-s.Base : s.Commit-s.Base] {
				m.history = append(m.history, item)
				before = append(before, watch.Event{Kind: 2, Client: item.Client, Req: item.Req, Body: item.Body})
			}
		}
	}
	m.broken = m.broken || m.down() > m.n/2
	return append(before, behind...)
}

func (m *model) down() int {
	count := 0
	for _, y := range m.nodes {
		if s := y.Stand(); !s.Up || s.Status == 3 {
			count++
		}
	}
	return count
}

// anything is a choice of which chance says what it is: most of the time one that does something.
func anything(x *trial, flood bool) api.Choice {
	if x.chance.below(6) == 0 {
		return x.anyChoice()
	}
	waiting := len(x.ring.Waiting())
	c := api.Choice{Kind: 1 + x.chance.below(9), Node: x.chance.below(x.n), N: x.chance.below(waiting + 1), Client: x.chance.below(Clients), Call: x.someCall()}
	// What stops all is chosen seldom, so that something goes on.
	seldom := false
	switch c.Kind {
	case api.DoCrash:
		seldom = x.chance.below(4) > 0 || !x.mayCrash(c.Node)
	case api.DoAgain:
		seldom = !flood && x.chance.below(4) > 0
	case api.DoLose, api.DoTick:
		seldom = x.chance.below(3) > 0
	case api.DoStart:
		c.N = x.chance.below(40)
	}
	if seldom {
		return deliver(c.N)
	}
	return c
}

// 27.1, whatever is chosen, whether the premise is broken or not.
func TestAgainstSecondWriting(t *testing.T) {
	var kinds [4]int
	broken := 0
	for seed := range 240 {
		n := []int{1, 3, 5, 7}[seed%4]
		x, m := newTrial(t, n, 5000+seed), newModel(n)
		x.reckless = seed%3 == 0
		for range 300 {
			c := anything(x, seed%10 == 0)
			got, want := x.ring.Step(c), m.step(c)
			x.events = append(x.events, got...)
			if !slices.Equal(got, want) {
				t.Fatalf("seed %d: %+v told %v, want %v", seed, c, got, want)
			}
			if x.ring.Down() != m.down() || x.ring.Broken() != m.broken || !slices.Equal(x.ring.H(), m.history) || !slices.Equal(letters(x.ring), m.mail) {
				t.Fatalf("seed %d: %+v did something else", seed, c)
			}
			x.stands = see(x.ring).stands
		}
		a, b := see(x.ring), see(&Ring{members: m.nodes, stubs: m.clients})
		if !reflect.DeepEqual(a.stands, b.stands) || !reflect.DeepEqual(a.items, b.items) || !reflect.DeepEqual(a.states, b.states) || !reflect.DeepEqual(a.stubs, b.stubs) {
			t.Fatalf("seed %d: the members or the stubs are others", seed)
		}
		for _, e := range x.events {
			kinds[e.Kind]++
		}
		if m.broken {
			broken++
		} else {
			keeps(t, x.events)
		}
	}
	for kind := 1; kind <= 3; kind++ {
		if kinds[kind] < 1000 {
			t.Errorf("only %d events of kind %d", kinds[kind], kind)
		}
	}
	if broken < 40 || broken > 200 {
		t.Errorf("%d were broken", broken)
	}
}
