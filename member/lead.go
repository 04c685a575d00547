package member

import (
	"slices"

	"sexton/api"
	"sexton/mach"
	"sexton/memo"
	"sexton/panel"
)

const (
	itemCost = 24 // what an item's numbers count in a log's bytes
	batch    = 8  // how many items a Prepare has at most, and how many shards are asked for at once
)

// onRequest: the leader takes it, all others say who leads.
func (x *Member) onRequest(client int, m memo.Memo) []Out {
	if !x.leads() {
		return x.answer(client, 0, x.view, "")
	}
	if reply, known := mach.Known(x.state, client, m.Op); known {
		return x.answer(client, m.Op, 0, reply)
	}
	if x.had(client, m.Op) || x.isFull(m.Data) {
		return nil
	}
	// The log refuses what is no right item: request 0, too many bytes.
	if _, e := x.log.Add(api.Item{View: x.view, Client: client, Req: m.Op, Body: m.Data}); e != api.OK {
		return nil
	}
	return append(x.prepares(), x.count()...)
}

// had tells whether a client's request, or a later one, was done or is in the log.
func (x *Member) had(client, req int) bool {
	return slices.ContainsFunc(x.state.Seats, func(y api.Seat) bool { return y.Client == client && y.Req >= req }) ||
		slices.ContainsFunc(x.Items(), func(y api.Item) bool { return y.Client == client && y.Req >= req })
}

// isFull tells whether the log has no room for an item with that body: it would not go into one memo any more.
func (x *Member) isFull(body string) bool {
	return cost(x.Items())+itemCost+len(body) > MaxLog
}

// cost is how many bytes items count.
func cost(l []api.Item) int {
	sum := 0
	for _, y := range l {
		sum += itemCost + len(y.Body)
	}
	return sum
}

// prepares are a Prepare to each other node, with what it may lack.
func (x *Member) prepares() []Out {
	var out []Out
	for _, node := range x.others() {
		from := max(x.acks[node].last, x.log.Base())
		out = append(out, x.toNodes(memo.Memo{
			Kind:   memo.Prepare,
			Op:     from,
			Commit: x.commit,
			Low:    max(x.low, x.log.Base()), // what a leader was told as trimmed all have applied, too
			Items:  x.items(from, batch),
		}, node)...)
	}
	return out
}

// onPrepare: it goes on with its view's log. One that has not begun that view may have another log: it asks for the whole.
func (x *Member) onPrepare(from int, m memo.Memo) []Out {
	if x.primaryOf(m.View) != from {
		return nil
	}
	if m.View > x.view {
		x.turn(m.View)
	}
	x.ticks = 0
	if x.status == Changing {
		return x.toNodes(memo.Memo{Kind: memo.Want}, from)
	}
	x.extend(m)
	x.commit = max(x.commit, min(m.Commit, x.log.Last()))
	x.perform()
	x.trim(min(m.Low, x.done()))
	return x.toAck(from)
}

// extend adds the items of a memo that follow its last one, as far as there is room.
func (x *Member) extend(m memo.Memo) {
	for i, y := range m.Items {
		if m.Op+1+i != x.log.Last()+1 {
			continue
		}
		if _, e := x.log.Add(y); e != api.OK {
			return
		}
	}
}

// trim has the log be without what is up to low, which it has done.
func (x *Member) trim(low int) {
	x.low = max(x.low, low)
	x.log.Trim(x.low)
}

// toAck is an Ack to the leader.
func (x *Member) toAck(leader int) []Out {
	return x.toNodes(memo.Memo{Kind: memo.Ack, Op: x.log.Last(), Commit: x.done()}, leader)
}

// onAck: what a node has counts. Acks may come in any order: what a node has in one life and view never falls. One that acks has recovered, and needs no pieces any more.
func (x *Member) onAck(from int, m memo.Memo) []Out {
	if !x.leads() || m.View != x.view {
		return nil
	}
	delete(x.kept, from)
	last := max(x.acks[from].last, min(m.Op, x.log.Last()))
	x.acks[from] = ack{last: last, done: m.Commit}
	return x.count()
}

// count commits what enough nodes have.
func (x *Member) count() []Out {
	lasts := make([]int, x.n)
	for node := range x.n {
		lasts[node] = x.acks[node].last
	}
	lasts[x.id] = x.log.Last()
	reached, _ := panel.Reached(x.n, lasts)
	x.commit = max(x.commit, reached)
	return x.perform()
}

// perform does to the state what is committed; the leader's letters to the clients.
func (x *Member) perform() []Out {
	var out []Out
	for x.isReplica() && x.applied < x.commit {
		y, e := x.log.Get(x.applied + 1)
		if e != api.OK {
			return out
		}
		s, reply, e := mach.Do(x.state, y)
		if e != api.OK {
			return out
		}
		x.state = s
		x.applied++
		if x.leads() && x.isClient(y.Client) {
			out = append(out, x.answer(y.Client, y.Req, 0, reply)...)
		}
	}
	return out
}

// Trim trims its log, if it leads.
func (x *Member) Trim() []Out {
	if !x.isUp() || !x.leads() {
		return nil
	}
	low := x.applied
	for _, node := range x.others() {
		low = min(low, x.acks[node].done)
	}
	x.trim(low)
	return nil
}
