package stub

import (
	"reflect"
	"testing"

	"sexton/answer"
	"sexton/api"
	"sexton/ask"
	"sexton/member"
	"sexton/memo"
)

// chance is numbers that look like chance, and are the same each time.
type chance uint64

func (x *chance) below(n int) int {
	*x = *x*6364136223846793005 + 1442695040888963407
	return int(uint32(*x>>32) % uint32(n))
}

// model is a second writing of the chapter: a stub as plain data.
type model struct {
	id, n, view, target, req int
	under, told              bool
	body                     string
	waiting                  []Reply
}

func (m *model) letter() []Out {
	m.told = false
	s, _ := memo.Pack(memo.Memo{Kind: 1, Client: m.id, Op: m.req, Data: m.body})
	return []Out{{m.target, s}}
}

func (m *model) call(c api.Call) ([]Out, api.Errno) {
	if ask.Check(c) != api.OK {
		return nil, api.BadCall
	}
	if m.under {
		return nil, api.ErrState
	}
	if len(m.waiting) >= 64 || m.req >= 1<<40 {
		return nil, api.ErrFull
	}
	m.body, _ = ask.Pack(c)
	m.req++
	m.under = true
	return m.letter(), api.OK
}

func (m *model) hear(from int, text string) bool {
	x, e := memo.Unpack(text)
	if e != api.OK || x.Kind != 2 || x.Client != m.id || from < 0 || from >= m.n {
		return false
	}
	if x.Op == 0 {
		if x.View >= m.view {
			m.view, m.target, m.told = x.View, x.View%((m.n+1)/2), true
		}
		return false
	}
	r, e := answer.Unpack(x.Data)
	if !m.under || x.Op != m.req || e != api.OK {
		return false
	}
	m.under = false
	m.waiting = append(m.waiting, Reply{x.Op, r})
	return true
}

func (m *model) tick() []Out {
	if !m.under {
		return nil
	}
	if !m.told {
		m.target = (m.target + 1) % ((m.n + 1) / 2)
	}
	return m.letter()
}

func (m *model) answer() (Reply, bool) {
	if len(m.waiting) == 0 {
		return Reply{}, false
	}
	r := m.waiting[0]
	m.waiting = m.waiting[1:]
	return r, true
}

// someCall is a call that is right, most of the time.
func someCall(x *chance) api.Call {
	c := api.Call{Kind: 1 + x.below(14), H: api.Handle{No: x.below(4), Gen: x.below(3)}, Name: string(rune('a' + x.below(4))), N: x.below(9)}
	if x.below(8) == 0 {
		c.Kind = []int{0, 15, -1}[x.below(3)]
	}
	return c
}

// someLetter is a letter that may be the answer, or may say who leads, or is neither.
func someLetter(x *chance, m *model) string {
	y := memo.Memo{Kind: memo.Told, Client: m.id, Op: m.req}
	y.Data, _ = answer.Pack(api.Reply{N: x.below(5)})
	switch x.below(12) {
	case 0, 1:
		y.Op, y.View = 0, max(0, m.view+x.below(5)-2)
	case 2:
		y.Op = max(0, m.req+x.below(5)-2)
	case 3:
		y.Client += x.below(3) - 1
	case 4:
		y.Kind = 1 + x.below(12)
	case 5:
		y.Data = "no reply"
	}
	s, _ := memo.Pack(y)
	if x.below(12) == 0 {
		b := []byte(s)
		b[x.below(len(b))] ^= 1 << x.below(8)
		return string(b)
	}
	return s
}

// 25.1 to 25.4: whatever comes.
func TestAgainstSecondWriting(t *testing.T) {
	for seed := range 400 {
		x := chance(seed)
		n := []int{1, 3, 5, 7}[seed%4]
		id := n + x.below(32-n)
		// Some read their answers seldom, so that many wait.
		lazy := seed%3 == 0
		s, m := made(t, id, n), &model{id: id, n: n}
		asked, answered := map[int]bool{}, map[int]bool{}
		for range 600 {
			switch x.below(8) {
			case 0, 1, 2:
				c := someCall(&x)
				got, e := s.Call(c)
				want, f := m.call(c)
				same(t, seed, "Call", got, want, e, f)
				keeps(t, s, got, n)
				if e == api.OK {
					if asked[m.req] || m.req != len(asked)+1 {
						t.Fatalf("seed %d: request %d", seed, m.req)
					}
					asked[m.req] = true
				}
			case 3, 4, 5:
				from, text := x.below(n+2)-1, someLetter(&x, m)
				same(t, seed, "Letter", s.Letter(from, text), m.hear(from, text))
			case 6:
				got := s.Tick()
				same(t, seed, "Tick", got, m.tick())
				keeps(t, s, got, n)
			case 7:
				if lazy && x.below(20) > 0 {
					continue
				}
				got, is := s.Answer()
				want, has := m.answer()
				same(t, seed, "Answer", got, want, is, has)
				if is && (answered[got.Req] || !asked[got.Req]) {
					t.Fatalf("seed %d: answered %d", seed, got.Req)
				}
				answered[got.Req] = is
			}
			req, under := s.Under()
			want := 0
			if m.under {
				want = m.req
			}
			same(t, seed, "Under, Target", req, want, under, m.under, s.Target(), m.target)
		}
	}
}

// same fails, if of pairs of things two are not the same.
func same(t *testing.T, seed int, what string, l ...any) {
	t.Helper()
	for i := 0; i < len(l); i += 2 {
		if !reflect.DeepEqual(l[i], l[i+1]) {
			t.Fatalf("seed %d: %s: %v, want %v", seed, what, l[i], l[i+1])
		}
	}
}

// keeps fails, if what was sent is not the call under way, or is not for a replica.
func keeps(t *testing.T, s *Stub, out []Out, n int) {
	t.Helper()
	req, under := s.Under()
	for _, o := range out {
		m, e := memo.Unpack(o.Text)
		if e != api.OK || !under || m.Op != req || m.Kind != memo.Request || o.To < 0 || o.To > n/2 {
			t.Fatalf("sent %v to %d, request %d under way: %v", m, o.To, req, under)
		}
	}
}

// cluster are members with one stub.
type cluster struct {
	members []*member.Member
	stub    *Stub
	post    []mail
}

type mail struct {
	from, to int
	text     string
}

func (c *cluster) send(from int, l []member.Out) {
	for _, o := range l {
		c.post = append(c.post, mail{from, o.To, o.Text})
	}
}

func (c *cluster) ask(l []Out) {
	for _, o := range l {
		c.post = append(c.post, mail{c.stub.id, o.To, o.Text})
	}
}

// deliver brings all letters, and those that they have others send.
func (c *cluster) deliver() {
	for len(c.post) > 0 {
		y := c.post[0]
		c.post = c.post[1:]
		if y.to < len(c.members) {
			c.send(y.to, c.members[y.to].Letter(y.from, y.text))
		} else {
			c.stub.Letter(y.from, y.text)
		}
	}
}

func (c *cluster) round() {
	for i, x := range c.members {
		c.send(i, x.Tick())
	}
	c.ask(c.stub.Tick())
	c.deliver()
}

// The leader crashes, and the stub finds the next one.
func TestWithMembers(t *testing.T) {
	c := &cluster{stub: made(t, 4, 3)}
	for i := range 3 {
		x, _ := member.New(i, 3)
		c.members = append(c.members, x)
	}
	for req := 1; req <= 6; req++ {
		if req == 3 {
			c.members[0].Crash()
		}
		out, e := c.stub.Call(makes(string(rune('a' + req))))
		if e != api.OK {
			t.Fatal(e)
		}
		c.ask(out)
		c.deliver()
		for range 40 {
			if _, under := c.stub.Under(); !under {
				break
			}
			c.round()
		}
		answers(t, c.stub, req, api.Reply{H: api.Handle{No: req, Gen: 1}, Attr: api.Attr{Kind: api.KindFile, Links: 1, Stamp: req}})
	}
	stands(t, c.stub, 0, 1)
}
