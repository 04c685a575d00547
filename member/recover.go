package member

import (
	"sexton/api"
	"sexton/memo"
	"sexton/oplog"
	"sexton/shard"
	"sexton/shot"
	"sexton/tally"
)

// hope is after how many ticks without a new shard a member that recovers begins anew.
const hope = 20

// inquire asks all nodes what was forgotten.
func (x *Member) inquire() []Out {
	return x.toNodes(memo.Memo{Kind: memo.Recover}, x.others()...)
}

// seek is a tick of one that recovers.
func (x *Member) seek() []Out {
	if x.pieces == nil {
		return x.inquire()
	}
	x.ticks++
	if x.ticks >= hope {
		return x.again()
	}
	return x.fetches()
}

// again has it begin anew. What it was told stays, so that neither its view nor its commit falls, but counts no longer.
func (x *Member) again() []Out {
	x.pieces = nil
	x.informs.clear()
	return x.inquire()
}

// fetches ask the leader for shards that are missing.
func (x *Member) fetches() []Out {
	var out []Out
	missing := x.pieces.Missing()
	for _, number := range missing[:min(batch, len(missing))] {
		m := memo.Memo{Kind: memo.Fetch, Op: x.pieces.Of().Op, Number: number}
		out = append(out, x.toNodes(m, x.primaryOf(x.view))...)
	}
	return out
}

// onRecover: a normal one tells its view, the leader all.
func (x *Member) onRecover(from int, _ memo.Memo) []Out {
	if x.status != Normal {
		return nil
	}
	m := memo.Memo{Kind: memo.Inform}
	if x.leads() {
		m = x.record(memo.Inform)
		if m.Base > 0 {
			m.Man = x.keep(from)
		}
	}
	return x.toNodes(m, from)
}

// keep keeps its state in pieces for a node: their manifest; the zero one, if the state is too long to be told. Each node has pieces of its own, so that one that asks does not take them from one that gathers.
func (x *Member) keep(node int) shard.Manifest {
	text, _ := shot.Pack(x.state)
	man, pieces, _ := shard.Split(x.applied, text)
	x.kept[node] = pieces
	return man
}

// onFetch: a piece of a state that is kept. Two states of one member behind as many operations are the same.
func (x *Member) onFetch(from int, m memo.Memo) []Out {
	for node := range x.n {
		l := x.kept[node]
		if m.Number >= len(l) || l[m.Number].Op != m.Op {
			continue
		}
		p := l[m.Number]
		return x.toNodes(memo.Memo{Kind: memo.Piece, Op: p.Op, Number: p.Number, Data: p.Data, Normal: p.Sum}, from)
	}
	return nil
}

// onInform: what was told to an earlier life counts no longer, nor what came late of what a node told.
func (x *Member) onInform(from int, m memo.Memo) []Out {
	if m.Lives[x.id] != x.lives[x.id] || isLate(m, x.informs.said[from]) {
		return nil
	}
	x.informs.add(tally.Bid{Node: from, Normal: m.View, Last: m.Op}, m)
	if !x.informs.bids.Enough() {
		return nil
	}
	best, _ := x.informs.bids.Best()
	told, there := x.informs.said[x.primaryOf(best.Normal)]
	if there && told.View == best.Normal && x.canResume(told) {
		x.resume(told)
	}
	return nil
}

// isLate tells whether a node told m ahead of what it is known to have told.
func isLate(m, known memo.Memo) bool {
	if m.View != known.View {
		return m.View < known.View
	}
	return m.Op < known.Op || m.Commit < known.Commit || m.Man.Op < known.Man.Op
}

// canResume tells whether a leader told enough to go on with. What it was told ahead must not fall.
func (x *Member) canResume(m memo.Memo) bool {
	if m.View < x.view || !isWhole(m) || m.Op < x.commit || m.Commit < m.Base || m.Commit > m.Op {
		return false
	}
	// Where there is no manifest its Op is 0, and Base above that.
	return !x.needsState(m) || m.Base <= m.Man.Op && m.Man.Op <= m.Commit
}

// needsState tells whether what a leader told is not all that this member needs: items that made the state were trimmed.
func (x *Member) needsState(m memo.Memo) bool { return x.isReplica() && m.Base > 0 }

// resume goes on with what a leader told.
func (x *Member) resume(m memo.Memo) {
	log, _ := oplog.New(m.Base)
	if log.Put(m.Base, m.Items) != api.OK {
		return
	}
	x.view, x.log, x.commit = m.View, log, max(x.commit, m.Commit)
	if x.needsState(m) {
		x.gather(m.Man)
		return
	}
	x.applied = 0
	x.settleAgain()
}

// gather gathers the shards of a state; those of the same one stay.
func (x *Member) gather(man shard.Manifest) {
	if x.pieces == nil || x.pieces.Of() != man {
		x.pieces, _ = shard.New(man)
		x.ticks = 0
	}
	x.applied = man.Op
}

// onPiece: when no shard is missing, the text is its state. One that is none was put together of others' shards.
func (x *Member) onPiece(_ int, m memo.Memo) []Out {
	isNew, _ := x.pieces.Add(shard.Shard{Op: m.Op, Number: m.Number, Data: m.Data, Sum: m.Normal})
	if !isNew {
		return nil
	}
	x.ticks = 0
	if len(x.pieces.Missing()) > 0 {
		return nil
	}
	text, _ := x.pieces.Text()
	s, e := shot.Unpack(text)
	if e != api.OK {
		return x.again()
	}
	x.state = s
	x.settleAgain()
	return nil
}

// settleAgain has it be normal once it has all that it had forgotten.
func (x *Member) settleAgain() {
	x.pieces = nil
	x.informs.clear()
	x.settle()
	x.perform()
}
