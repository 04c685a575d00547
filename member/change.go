package member

import (
	"sexton/api"
	"sexton/memo"
	"sexton/oplog"
	"sexton/tally"
)

const (
	patience = 8 // after how many ticks node 0 changes to the next view
	apart    = 3 // how many more it is of each next node, so that they do not all change at once
)

// wait is a tick of one that is waiting for its view's leader.
func (x *Member) wait() []Out {
	x.ticks++
	if x.ticks < patience+apart*x.id {
		return nil
	}
	return x.change(x.view + 1)
}

// turn has it be changing, of a view.
func (x *Member) turn(view int) {
	x.view, x.status, x.ticks = view, Changing, 0
	x.offered = false
	x.offers.clear()
	x.changes.Clear()
	x.changes.Add(tally.Bid{Node: x.id})
}

// change has it change to a view.
func (x *Member) change(view int) []Out {
	if view > api.MaxBig {
		return nil
	}
	x.turn(view)
	return x.toNodes(memo.Memo{Kind: memo.Change}, x.others()...)
}

// follow has it change to a view, if that is a greater one.
func (x *Member) follow(view int) []Out {
	if view <= x.view {
		return nil
	}
	return x.change(view)
}

// onChange: that node changes to the view.
func (x *Member) onChange(from int, m memo.Memo) []Out {
	out := x.follow(m.View)
	if x.status != Changing {
		return out
	}
	x.changes.Add(tally.Bid{Node: from})
	return append(out, x.advance()...)
}

// onOffer: that node's log is offered to the view's primary. Who offers changes.
func (x *Member) onOffer(from int, m memo.Memo) []Out {
	if x.primaryOf(m.View) != x.id || !isWhole(m) {
		return nil
	}
	out := x.follow(m.View)
	if x.status != Changing {
		return out
	}
	x.offers.add(tally.Bid{Node: from, Normal: m.Normal, Last: m.Op}, m)
	x.changes.Add(tally.Bid{Node: from})
	return append(out, x.advance()...)
}

// advance offers its log once enough members change; then the primary leads, if there are offers of enough.
func (x *Member) advance() []Out {
	var out []Out
	if !x.offered && x.changes.Enough() {
		x.offered = true
		out = x.offer()
	}
	if x.offered && x.offers.bids.Enough() {
		out = append(out, x.lead()...)
	}
	return out
}

// offer offers its log to the view's primary; the primary's own letter needs no way.
func (x *Member) offer() []Out {
	m := x.record(memo.Offer)
	m.Normal = x.normal
	if primary := x.primaryOf(x.view); primary != x.id {
		return x.toNodes(m, primary)
	}
	x.offers.add(tally.Bid{Node: x.id, Normal: m.Normal, Last: m.Op}, m)
	return nil
}

// lead has the primary begin its view with the best log that was offered.
func (x *Member) lead() []Out {
	best, _ := x.offers.bids.Best()
	m := x.offers.said[best.Node]
	for _, y := range x.offers.said {
		m.Commit = max(m.Commit, y.Commit)
	}
	if !x.take(m) {
		return nil
	}
	x.settle()
	out := x.toNodes(x.record(memo.Start), x.others()...)
	return append(out, x.perform()...)
}

// onStart: the view's log is that of its leader.
func (x *Member) onStart(from int, m memo.Memo) []Out {
	if x.primaryOf(m.View) != from || !isWhole(m) {
		return nil
	}
	if m.View == x.view && x.status != Changing || !x.take(m) {
		return nil
	}
	x.view = m.View
	x.settle()
	x.perform()
	return x.toAck(from)
}

// onWant: that node lacks the view's log.
func (x *Member) onWant(from int, m memo.Memo) []Out {
	if !x.leads() || m.View != x.view {
		return nil
	}
	return x.toNodes(x.record(memo.Start), from)
}

// take has the log be the memo's behind its Base, as far as that is behind its own, and has be committed what is so there. It tells whether that can be: nothing may lie between both, and nothing that is committed here may be missing there.
func (x *Member) take(m memo.Memo) bool {
	from := max(m.Base, x.log.Base())
	if from > x.log.Last() || m.Op < x.commit {
		return false
	}
	l := m.Items[from-m.Base:]
	x.makeRoom(from, l)
	if x.log.Put(from, l) != api.OK {
		return false
	}
	x.commit = max(x.commit, min(m.Commit, x.log.Last()))
	return true
}

// makeRoom trims what another one has trimmed, if both logs together would be more than a log may be: what was left here by chance must not keep a view from beginning.
func (x *Member) makeRoom(from int, l []api.Item) {
	own := x.items(x.log.Base(), from-x.log.Base())
	if len(own)+len(l) > oplog.MaxItems || cost(own)+cost(l) > MaxLog {
		x.log.Trim(min(from, x.done()))
	}
}
