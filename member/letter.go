package member

import (
	"sexton/api"
	"sexton/memo"
	"sexton/nonce"
	"sexton/tally"
)

// row is what a memo of some kind does, and where.
type row struct {
	does   func(from int, m memo.Memo) []Out
	client bool // it is a client's; all others are nodes'
	late   bool // it does so of a lesser view, too
	lost   bool // it is for a member that recovers; all others are for one that does not
}

// rows are what memos do, by their kinds. Told is not among them: it is for clients.
func (x *Member) rows() map[int]row {
	return map[int]row{
		memo.Request: {does: x.onRequest, client: true, late: true}, // a client need not know the view
		memo.Prepare: {does: x.onPrepare},
		memo.Ack:     {does: x.onAck},
		memo.Change:  {does: x.onChange},
		memo.Offer:   {does: x.onOffer},
		memo.Start:   {does: x.onStart},
		memo.Want:    {does: x.onWant},
		memo.Recover: {does: x.onRecover, late: true},
		memo.Inform:  {does: x.onInform, late: true, lost: true},
		memo.Fetch:   {does: x.onFetch, late: true},
		memo.Piece:   {does: x.onPiece, late: true, lost: true},
	}
}

// Letter delivers a letter.
func (x *Member) Letter(from int, text string) []Out {
	if !x.isUp() || from == x.id || from < 0 || from > maxClient {
		return nil
	}
	m, e := memo.Unpack(text)
	if e != api.OK || !x.hears(from, m) {
		return nil
	}
	r := x.rows()[m.Kind]
	switch {
	case r.does == nil, r.client != x.isClient(from), r.lost != (x.status == Recovering):
		return nil
	case m.View < x.view && !r.late:
		return nil
	}
	return r.does(from, m)
}

// hears tells whether a memo is one that counts: of a client one of its own, of a node what it said in this life.
func (x *Member) hears(from int, m memo.Memo) bool {
	if x.isClient(from) {
		return m.Client == from
	}
	old, e := nonce.Old(x.lives, from, m.Lives)
	if e != api.OK || old {
		return false
	}
	lives, later, _ := nonce.Merge(x.lives, m.Lives)
	x.lives = lives
	for _, node := range later {
		x.forget(node)
	}
	return true
}

// forget forgets what a node said: it has done so itself.
func (x *Member) forget(node int) {
	delete(x.acks, node)
	x.changes.Forget(node)
	x.offers.forget(node)
	x.informs.forget(node)
}

// others are all nodes but itself.
func (x *Member) others() []int {
	var l []int
	for node := range x.n {
		if node != x.id {
			l = append(l, node)
		}
	}
	return l
}

// toNodes are letters of one memo to nodes: each has the view and the lives that its sender knows.
func (x *Member) toNodes(m memo.Memo, nodes ...int) []Out {
	m.View, m.Lives = x.view, x.lives
	return letters(m, nodes...)
}

// letters are letters of one memo. One that is too long is not sent: logs that were taken within MaxLog never are.
func letters(m memo.Memo, to ...int) []Out {
	text, e := memo.Pack(m)
	if e != api.OK {
		return nil
	}
	var l []Out
	for _, number := range to {
		l = append(l, Out{To: number, Text: text})
	}
	return l
}

// answer is a client's answer; of request 0 it says but who leads.
func (x *Member) answer(client, req, view int, reply string) []Out {
	return letters(memo.Memo{Kind: memo.Told, View: view, Op: req, Client: client, Data: reply}, client)
}

// record is a memo of that kind with all that is in the log.
func (x *Member) record(kind int) memo.Memo {
	return memo.Memo{Kind: kind, Op: x.log.Last(), Commit: x.commit, Base: x.log.Base(), Items: x.Items()}
}

// isWhole tells whether a memo has all items between its Base and its Op.
func isWhole(m memo.Memo) bool { return m.Op == m.Base+len(m.Items) }

// poll has what nodes told in one matter: of each its last memo, and the bid by which that counts.
type poll struct {
	bids *tally.Tally
	said map[int]memo.Memo
}

// newPoll is a poll of n nodes, in which none told anything.
func newPoll(n int) poll {
	t, _ := tally.New(n)
	return poll{bids: t, said: map[int]memo.Memo{}}
}

// add takes what a node told.
func (p poll) add(b tally.Bid, m memo.Memo) {
	if _, e := p.bids.Add(b); e == api.OK {
		p.said[b.Node] = m
	}
}

// forget forgets what a node told.
func (p poll) forget(node int) {
	p.bids.Forget(node)
	delete(p.said, node)
}

// clear forgets what all told.
func (p poll) clear() {
	p.bids.Clear()
	clear(p.said)
}
