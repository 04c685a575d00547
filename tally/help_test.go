package tally

import (
	"math"
	"slices"
	"testing"

	"sexton/api"
)

const big = api.MaxBig

// counts are the numbers of nodes that a tally may have.
var counts = []int{1, 3, 5, 7}

// outside are numbers that are neither a Normal nor a Last.
var outside = []int{math.MinInt, -1 << 32, -2, -1, big + 1, big + 2, 1 << 48, math.MaxInt}

// noNodes are numbers that are no node of n.
func noNodes(n int) []int {
	return []int{math.MinInt, -64, -2, -1, n, n + 1, 8, 63, 64, 1 << 32, math.MaxInt}
}

// chance is numbers that look like chance, and are the same each time.
type chance uint64

func (x *chance) below(n int) int {
	*x = *x*6364136223846793005 + 1442695040888963407
	return int(uint32(*x>>32) % uint32(n))
}

// model is a tally as the chapter's words say: all that came, of which a node's last one counts.
type model struct {
	n    int
	came []Bid
}

func (x *model) add(b Bid) (bool, api.Errno) {
	if b.Node < 0 || b.Node > x.n-1 || b.Normal < 0 || b.Normal > big || b.Last < 0 || b.Last > big {
		return false, api.ErrArg
	}
	had := slices.Contains(x.nodes(), b.Node)
	x.came = append(x.came, b)
	return !had, api.OK
}

func (x *model) forget(node int) (bool, api.Errno) {
	if node < 0 || node > x.n-1 {
		return false, api.ErrArg
	}
	had := slices.Contains(x.nodes(), node)
	x.came = slices.DeleteFunc(x.came, func(b Bid) bool { return b.Node == node })
	return had, api.OK
}

// nodes are those of whom one came.
func (x *model) nodes() []int {
	var l []int
	for node := range x.n {
		if slices.ContainsFunc(x.came, func(b Bid) bool { return b.Node == node }) {
			l = append(l, node)
		}
	}
	return l
}

// last are the bids that count.
func (x *model) last() []Bid {
	var l []Bid
	for i, b := range x.came {
		if !slices.ContainsFunc(x.came[i+1:], func(c Bid) bool { return c.Node == b.Node }) {
			l = append(l, b)
		}
	}
	return l
}

// isBetter is the chapter's word.
func isBetter(a, b Bid) bool {
	return a.Normal > b.Normal || a.Normal == b.Normal && (a.Last > b.Last || a.Last == b.Last && a.Node < b.Node)
}

// best is the bid than which no other one is better.
func (x *model) best() (Bid, api.Errno) {
	l := x.last()
	for _, b := range l {
		if !slices.ContainsFunc(l, func(c Bid) bool { return isBetter(c, b) }) {
			return b, api.OK
		}
	}
	return Bid{}, api.ErrNone
}

// pair is a tally with its model beside it.
type pair struct {
	t *testing.T
	a *Tally
	x *model
}

func begin(t *testing.T, n int) pair {
	t.Helper()
	a, e := New(n)
	if a == nil || e != api.OK {
		t.Fatalf("New(%d): %v, %v", n, a, e)
	}
	p := pair{t, a, &model{n: n}}
	p.look()
	return p
}

// look holds all that the tally tells against the model.
func (p pair) look() {
	p.t.Helper()
	best, e := p.x.best()
	nodes := p.x.nodes()
	wantStand(p.t, p.a, nodes, 2*len(nodes) > p.x.n, best, e)
}

func (p pair) add(b Bid) (bool, api.Errno) {
	p.t.Helper()
	is, e := p.x.add(b)
	wantAdd(p.t, p.a, b, is, e)
	p.look()
	return is, e
}

func (p pair) forget(node int) (bool, api.Errno) {
	p.t.Helper()
	had, e := p.x.forget(node)
	wantForget(p.t, p.a, node, had, e)
	p.look()
	return had, e
}

func (p pair) clear() {
	p.t.Helper()
	p.x.came = nil
	p.a.Clear()
	p.look()
}

func wantAdd(t *testing.T, a *Tally, b Bid, want bool, wantE api.Errno) {
	t.Helper()
	if is, e := a.Add(b); is != want || e != wantE {
		t.Errorf("Add(%v): %v, %v; want %v, %v", b, is, e, want, wantE)
	}
}

func wantForget(t *testing.T, a *Tally, node int, want bool, wantE api.Errno) {
	t.Helper()
	if had, e := a.Forget(node); had != want || e != wantE {
		t.Errorf("Forget(%d): %v, %v; want %v, %v", node, had, e, want, wantE)
	}
}

func wantBest(t *testing.T, a *Tally, want Bid, wantE api.Errno) {
	t.Helper()
	if b, e := a.Best(); b != want || e != wantE {
		t.Errorf("Best: %v, %v; want %v, %v", b, e, want, wantE)
	}
}

func wantStand(t *testing.T, a *Tally, nodes []int, enough bool, best Bid, bestE api.Errno) {
	t.Helper()
	if l := a.Nodes(); !slices.Equal(l, nodes) {
		t.Errorf("Nodes: %v; want %v", l, nodes)
	}
	if n := a.Count(); n != len(nodes) {
		t.Errorf("Count: %d; want %d", n, len(nodes))
	}
	if is := a.Enough(); is != enough {
		t.Errorf("Enough: %v of %v; want %v", is, nodes, enough)
	}
	wantBest(t, a, best, bestE)
}
