package member

import (
	"reflect"
	"slices"
	"strings"
	"testing"

	"sexton/answer"
	"sexton/api"
	"sexton/ask"
	"sexton/memo"
)

const big = api.MaxBig

// chance is numbers that look like chance, and are the same each time.
type chance uint64

func (x *chance) below(n int) int {
	*x = *x*6364136223846793005 + 1442695040888963407
	return int(uint32(*x>>32) % uint32(n))
}

// mk is the bytes of a call that makes a file in the root.
func mk(name string) string {
	return body(api.Call{Kind: api.CallMake, H: api.Handle{No: 0, Gen: 1}, Name: name})
}

func body(c api.Call) string {
	s, e := ask.Pack(c)
	if e != api.OK {
		panic(e)
	}
	return s
}

// item is an item of the log.
func item(view, client, req int) api.Item {
	return api.Item{View: view, Client: client, Req: req, Body: mk(strings.Repeat("n", req%30+1))}
}

// items are that many items of view 0, of client 9.
func items(count int) []api.Item {
	var l []api.Item
	for i := range count {
		l = append(l, item(0, 9, i+1))
	}
	return l
}

func pack(m memo.Memo) string {
	s, e := memo.Pack(m)
	if e != api.OK {
		panic(e)
	}
	return s
}

// request is a client's letter.
func request(client, req int, data string) string {
	return pack(memo.Memo{Kind: memo.Request, Client: client, Op: req, Data: data})
}

// said is a node's letter; if it has no lives, those of the beginning.
func said(n int, m memo.Memo) string {
	if m.Lives == nil {
		m.Lives = make([]int, n)
	}
	return pack(m)
}

// open is the memo of a letter.
func open(t *testing.T, o Out) memo.Memo {
	t.Helper()
	m, e := memo.Unpack(o.Text)
	if e != api.OK {
		t.Fatalf("a letter to %d that is no memo: %v", o.To, e)
	}
	return m
}

// sends fails, if letters are not those of the memos, in their order. Which lives they have is looked at elsewhere.
func sends(t *testing.T, out []Out, want ...sent) {
	t.Helper()
	if len(out) != len(want) {
		t.Fatalf("%d letters, want %d: %v", len(out), len(want), opened(t, out))
	}
	for i, o := range out {
		m := open(t, o)
		m.Lives = nil
		if got := (sent{o.To, m}); !reflect.DeepEqual(tidySent(got), tidySent(want[i])) {
			t.Errorf("letter %d: %+v\nwant %+v", i, got, want[i])
		}
	}
}

// sent is a memo, and to whom it goes.
type sent struct {
	to int
	m  memo.Memo
}

func tidySent(x sent) sent {
	if len(x.m.Items) == 0 {
		x.m.Items = nil
	}
	return x
}

// toEach is a memo to each node of a list.
func toEach(m memo.Memo, nodes ...int) []sent {
	var l []sent
	for _, node := range nodes {
		l = append(l, sent{node, m})
	}
	return l
}

func opened(t *testing.T, out []Out) []sent {
	t.Helper()
	var l []sent
	for _, o := range out {
		l = append(l, sent{o.To, open(t, o)})
	}
	return l
}

// stands fails, if a member stands otherwise.
func stands(t *testing.T, x *Member, want Stand) {
	t.Helper()
	if got := x.Stand(); got != want {
		t.Errorf("%+v\nwant %+v", got, want)
	}
}

// made is a member that is up.
func made(t *testing.T, id, n int) *Member {
	t.Helper()
	x, e := New(id, n)
	if e != api.OK {
		t.Fatal(e)
	}
	return x
}

// started is a member that crashed and was started with a nonce.
func started(t *testing.T, id, n, nonce int) *Member {
	t.Helper()
	x := made(t, id, n)
	x.Crash()
	if _, e := x.Start(nonce); e != api.OK {
		t.Fatal(e)
	}
	return x
}

// same tells whether two members are the same through and through.
func same(x, y *Member) bool { return reflect.DeepEqual(x, y) }

// mail is a letter on its way.
type mail struct {
	from, to int
	text     string
}

// cluster is some members, whose letters come in the order in which they were sent.
type cluster struct {
	t    *testing.T
	l    []*Member
	post []mail
	told []sent
	cut  int // a set of nodes: what they send, and what is sent to them, is lost
}

func newCluster(t *testing.T, n int) *cluster {
	c := &cluster{t: t}
	for id := range n {
		c.l = append(c.l, made(t, id, n))
	}
	return c
}

func (c *cluster) send(from int, l []Out) {
	for _, o := range l {
		c.post = append(c.post, mail{from, o.To, o.Text})
	}
}

// run delivers all letters, and those that these have sent.
func (c *cluster) run() {
	c.t.Helper()
	for len(c.post) > 0 {
		y := c.post[0]
		c.post = c.post[1:]
		switch {
		case c.cut>>y.from&1 == 1 || c.cut>>y.to&1 == 1:
		case y.to >= len(c.l):
			c.told = append(c.told, sent{y.to, open(c.t, Out{y.to, y.text})})
		default:
			c.send(y.to, c.l[y.to].Letter(y.from, y.text))
		}
	}
}

// ask has a client send a request to a node, and all that follows happen.
func (c *cluster) ask(node, client, req int, data string) {
	c.t.Helper()
	c.send(node, c.l[node].Letter(client, request(client, req, data)))
	c.run()
}

// tick has a node tick so many times, and all that follows happen.
func (c *cluster) tick(node, times int) {
	c.t.Helper()
	for range times {
		c.send(node, c.l[node].Tick())
	}
	c.run()
}

// crash has a node crash.
func (c *cluster) crash(node int) {
	c.t.Helper()
	if e := c.l[node].Crash(); e != api.OK {
		c.t.Fatal(e)
	}
}

// start has a node start again, and all that follows happen.
func (c *cluster) start(node, nonce int) {
	c.t.Helper()
	out, e := c.l[node].Start(nonce)
	if e != api.OK {
		c.t.Fatal(e)
	}
	c.send(node, out)
	c.run()
}

// reply is what a client was told last.
func (c *cluster) reply() (int, memo.Memo, api.Reply) {
	c.t.Helper()
	if len(c.told) == 0 {
		c.t.Fatal("nobody was told anything")
	}
	y := c.told[len(c.told)-1]
	r, e := answer.Unpack(y.m.Data)
	if e != api.OK {
		c.t.Fatalf("no reply: %q", y.m.Data)
	}
	return y.to, y.m, r
}

// isZero tells whether a state is the zero one.
func isZero(s api.State) bool {
	return len(s.Inodes) == 0 && len(s.Opens) == 0 && len(s.Seats) == 0 && s.Done == 0
}

// tidy is a state in new memory whose empty lists are nil.
func tidy(s api.State) api.State {
	var x api.State
	for _, y := range s.Inodes {
		y.Runs = append([]api.Run(nil), y.Runs...)
		y.Entries = append([]api.Entry(nil), y.Entries...)
		x.Inodes = append(x.Inodes, y)
	}
	x.Opens = append(x.Opens, s.Opens...)
	x.Seats = append(x.Seats, s.Seats...)
	x.Done = s.Done
	return x
}

func sameState(a, b api.State) bool { return reflect.DeepEqual(tidy(a), tidy(b)) }

// turned is a text of which the bits of a burst from a place on are turned.
func turned(text string, bit int, burst uint32) string {
	b := []byte(text)
	for i := range 32 {
		if at := bit + i; burst>>i&1 == 1 && at < 8*len(b) {
			b[at/8] ^= 1 << (at % 8)
		}
	}
	return string(b)
}

// has tells whether one of some letters is of a kind.
func has(t *testing.T, out []Out, kind int) bool {
	t.Helper()
	return slices.ContainsFunc(out, func(o Out) bool { return open(t, o).Kind == kind })
}
