package tally

import (
	"math"
	"slices"
	"testing"

	"sexton/api"
)

func TestExample(t *testing.T) {
	p := begin(t, 3)
	p.add(Bid{0, 2, 5})
	p.add(Bid{2, 2, 7})
	wantStand(t, p.a, []int{0, 2}, true, Bid{2, 2, 7}, api.OK)
	wantForget(t, p.a, 2, true, api.OK)
	wantStand(t, p.a, []int{0}, false, Bid{0, 2, 5}, api.OK)
}

// 21.1

func TestNew(t *testing.T) {
	fails := func(n int) {
		if a, e := New(n); a != nil || e != api.ErrArg {
			t.Errorf("New(%d): %v, %v", n, a, e)
		}
	}
	for n := -1; n <= 9; n++ {
		if slices.Contains(counts, n) {
			wantStand(t, begin(t, n).a, nil, false, Bid{}, api.ErrNone)
		} else {
			fails(n)
		}
	}
	for _, n := range []int{math.MinInt, -7, -3, 11, 63, 65, 1<<32 + 3, math.MaxInt} {
		fails(n)
	}
}

// TestTalliesAreApart: what one has says nothing of another one.
func TestTalliesAreApart(t *testing.T) {
	p, q := begin(t, 3), begin(t, 3)
	p.add(Bid{1, 2, 3})
	q.look()
	q.add(Bid{2, 0, 0})
	p.look()
	q.clear()
	p.look()
}

func TestAdd(t *testing.T) {
	for _, n := range counts {
		for node := range n {
			for _, normal := range []int{0, 1, big - 1, big} {
				for _, last := range []int{0, 1, big - 1, big} {
					p := begin(t, n)
					b := Bid{node, normal, last}
					if is, e := p.add(b); !is || e != api.OK {
						t.Errorf("of %d nodes: Add(%v): %v, %v", n, b, is, e)
					}
					wantStand(t, p.a, []int{node}, n == 1, b, api.OK)
				}
			}
		}
	}
}

// wrongBids are bids that no tally of n nodes takes.
func wrongBids(n int) []Bid {
	l := []Bid{{-1, -1, -1}, {n, big + 1, big + 1}}
	for _, node := range noNodes(n) {
		l = append(l, Bid{node, 0, 0}, Bid{node, 9, 9}, Bid{node, big, big})
	}
	for node := range n {
		for _, x := range outside {
			l = append(l, Bid{node, x, 0}, Bid{node, x, big}, Bid{node, 0, x}, Bid{node, big, x}, Bid{node, x, x})
		}
	}
	return l
}

// TestAddWrong: what is refused leaves the tally as it was, without a bid, with some, and with all.
func TestAddWrong(t *testing.T) {
	for _, n := range counts {
		p := begin(t, n)
		for node := -1; node < n; node++ {
			if node >= 0 {
				p.add(Bid{node, 5, 5})
			}
			for _, b := range wrongBids(n) {
				if is, e := p.add(b); is || e != api.ErrArg {
					t.Errorf("of %d nodes: Add(%v): %v, %v", n, b, is, e)
				}
			}
		}
	}
}

// TestAddAgain: a node's bid is the last one, be it better or not; it is no new one.
func TestAddAgain(t *testing.T) {
	for _, n := range counts {
		for node := range n {
			p := begin(t, n)
			for i, b := range []Bid{{node, 2, 5}, {node, 2, 5}, {node, 3, 0}, {node, 0, 9}, {node, 0, 0}, {node, big, big}, {node, 1, big}} {
				if is, e := p.add(b); is != (i == 0) || e != api.OK {
					t.Errorf("of %d nodes: Add(%v): %v, %v", n, b, is, e)
				}
				wantStand(t, p.a, []int{node}, n == 1, b, api.OK)
			}
		}
	}
}

func TestForget(t *testing.T) {
	for _, n := range counts {
		for node := range n {
			p := begin(t, n)
			p.forget(node)
			for other := range n {
				p.add(Bid{other, other, n - other})
			}
			if had, e := p.forget(node); !had || e != api.OK {
				t.Errorf("of %d nodes: Forget(%d): %v, %v", n, node, had, e)
			}
			if had, e := p.forget(node); had || e != api.OK {
				t.Errorf("of %d nodes: Forget(%d) again: %v, %v", n, node, had, e)
			}
			if slices.Contains(p.a.Nodes(), node) || p.a.Count() != n-1 {
				t.Errorf("of %d nodes: node %d is not forgotten: %v", n, node, p.a.Nodes())
			}
			if is, e := p.add(Bid{node, 1, 1}); !is || e != api.OK {
				t.Errorf("of %d nodes: node %d, forgotten, had a bid: %v, %v", n, node, is, e)
			}
		}
	}
}

func TestForgetNoNode(t *testing.T) {
	for _, n := range counts {
		p := begin(t, n)
		for node := -1; node < n; node++ {
			if node >= 0 {
				p.add(Bid{node, 0, 0})
			}
			for _, x := range noNodes(n) {
				if had, e := p.forget(x); had || e != api.ErrArg {
					t.Errorf("of %d nodes: Forget(%d): %v, %v", n, x, had, e)
				}
			}
		}
	}
}

// TestClear: none has a bid, and each may bid anew.
func TestClear(t *testing.T) {
	for _, n := range counts {
		for some := range n + 1 {
			p := begin(t, n)
			for range 2 {
				for node := range some {
					if is, e := p.add(Bid{node, 3, node}); !is || e != api.OK {
						t.Errorf("of %d nodes: Add: %v, %v", n, is, e)
					}
				}
				p.clear()
				wantStand(t, p.a, nil, false, Bid{}, api.ErrNone)
				p.clear()
			}
			p.forget(0)
		}
	}
}

// 21.2

// TestEnough: each set of nodes, of each panel.
func TestEnough(t *testing.T) {
	for _, n := range counts {
		for set := range 1 << n {
			p := begin(t, n)
			var nodes []int
			for node := n - 1; node >= 0; node-- {
				if set>>node&1 == 1 {
					nodes = append([]int{node}, nodes...)
					wantAdd(t, p.a, Bid{node, 0, 0}, true, api.OK)
				}
			}
			if l := p.a.Nodes(); !slices.Equal(l, nodes) || p.a.Count() != len(nodes) {
				t.Errorf("of %d nodes, set %b: %v", n, set, l)
			}
			if is := p.a.Enough(); is != (len(nodes) >= (n-1)/2+1) {
				t.Errorf("of %d nodes, %v: enough %v", n, nodes, is)
			}
		}
	}
}

// TestBest: bids that are the same but for one thing.
func TestBest(t *testing.T) {
	for _, c := range []struct{ best, other Bid }{
		{Bid{0, 2, 5}, Bid{1, 1, 5}}, {Bid{1, 2, 5}, Bid{0, 1, 5}}, // Normal
		{Bid{0, 2, 6}, Bid{1, 2, 5}}, {Bid{1, 2, 6}, Bid{0, 2, 5}}, // Last
		{Bid{0, 2, 5}, Bid{1, 2, 5}}, {Bid{0, 0, 0}, Bid{6, 0, 0}}, {Bid{3, big, big}, Bid{5, big, big}}, // Node
		{Bid{4, 2, 0}, Bid{0, 1, big}}, {Bid{0, 2, 0}, Bid{4, 1, big}}, {Bid{6, big, 0}, Bid{0, big - 1, big}}, // Normal ahead of Last
		{Bid{6, 0, 1}, Bid{0, 0, 0}}, {Bid{6, 1, 0}, Bid{0, 0, 0}}, {Bid{5, 0, big}, Bid{2, 0, big - 1}},
	} {
		for _, l := range [][]Bid{{c.best, c.other}, {c.other, c.best}} {
			p := begin(t, 7)
			p.add(l[0])
			p.add(l[1])
			wantBest(t, p.a, c.best, api.OK)
			p.forget(c.best.Node)
			wantBest(t, p.a, c.other, api.OK)
			p.forget(c.other.Node)
			wantBest(t, p.a, Bid{}, api.ErrNone)
		}
	}
}

// TestTold: what Nodes told stays as it is, and what is done to it changes nothing.
func TestTold(t *testing.T) {
	p := begin(t, 5)
	for _, node := range []int{4, 0, 2} {
		p.add(Bid{node, 1, node})
	}
	told, other := p.a.Nodes(), p.a.Nodes()
	p.add(Bid{1, 0, 0})
	p.forget(2)
	if !slices.Equal(told, []int{0, 2, 4}) {
		t.Errorf("what was told is now %v", told)
	}
	p.clear()
	p.add(Bid{3, 0, 0})
	if !slices.Equal(told, []int{0, 2, 4}) {
		t.Errorf("what was told is now %v", told)
	}
	clear(told[:cap(told)])
	if !slices.Equal(other, []int{0, 2, 4}) {
		t.Errorf("two that were told share memory: %v", other)
	}
	p.look()
	_ = append(p.a.Nodes(), 77)
	p.look()
}

// TestNil: one that is not there; one that New did not make has no nodes either.
func TestNil(t *testing.T) {
	for _, a := range []*Tally{nil, {}} {
		for _, b := range []Bid{{}, {0, 1, 1}, {1, 0, 0}, {-1, 0, 0}, {0, -1, 0}, {7, big, big}} {
			wantAdd(t, a, b, false, api.ErrArg)
		}
		for _, node := range []int{math.MinInt, -1, 0, 1, 7, math.MaxInt} {
			wantForget(t, a, node, false, api.ErrArg)
		}
		a.Clear()
		wantStand(t, a, nil, false, Bid{}, api.ErrNone)
	}
}

// 21.3

// orders are all orders of a list.
func orders(l []Bid) [][]Bid {
	if len(l) == 0 {
		return [][]Bid{nil}
	}
	var all [][]Bid
	for i, b := range l {
		rest := slices.Delete(slices.Clone(l), i, i+1)
		for _, o := range orders(rest) {
			all = append(all, append([]Bid{b}, o...))
		}
	}
	return all
}

// TestOrders: one bid of each node, in each order.
func TestOrders(t *testing.T) {
	for _, l := range [][]Bid{
		{{0, 2, 5}},
		{{0, 2, 5}, {1, 2, 7}, {2, 3, 0}},
		{{0, 1, 1}, {1, 1, 1}, {2, 1, 1}, {3, 1, 1}, {4, 1, 1}},
		{{0, 0, big}, {1, 1, 3}, {2, 1, 4}, {3, 1, 4}, {4, 0, 9}},
		{{0, 4, 4}, {1, 4, 4}, {2, 4, 5}, {3, 3, 9}, {4, 4, 5}, {5, 4, 0}, {6, 0, big}},
	} {
		first := begin(t, len(l))
		for _, b := range l {
			first.add(b)
		}
		best, _ := first.a.Best()
		for _, b := range l {
			if b != best && !isBetter(best, b) {
				t.Errorf("%v is not better than %v", best, b)
			}
		}
		for _, o := range orders(l) {
			a, _ := New(len(l))
			for _, b := range o {
				a.Add(b)
			}
			wantStand(t, a, first.a.Nodes(), true, best, api.OK)
		}
	}
}

// TestOrdersOfMore: of a node with more bids the last one counts, whatever comes between.
func TestOrdersOfMore(t *testing.T) {
	for _, o := range orders([]Bid{{1, 2, 5}, {1, 9, 9}, {1, 0, 0}, {0, 2, 5}, {2, 2, 6}, {2, 1, 8}}) {
		p := begin(t, 3)
		seen := map[int]bool{}
		for _, b := range o {
			if is, e := p.add(b); is == seen[b.Node] || e != api.OK {
				t.Errorf("%v: Add(%v): %v, %v", o, b, is, e)
			}
			seen[b.Node] = true
		}
		if t.Failed() {
			break
		}
	}
}

// TestOneIsTheBest: of any two bids of two nodes one is better, and of all one is better than each other one.
func TestOneIsTheBest(t *testing.T) {
	x := chance(1)
	for range 3000 {
		n := counts[x.below(4)]
		a, _ := New(n)
		var l []Bid
		for node := range n {
			if x.below(4) > 0 {
				l = append(l, Bid{node, x.below(3), x.below(3)})
				a.Add(l[len(l)-1])
			}
		}
		best, e := a.Best()
		if len(l) == 0 {
			wantBest(t, a, Bid{}, api.ErrNone)
			continue
		}
		if !slices.Contains(l, best) || e != api.OK {
			t.Fatalf("of %v the best is %v, %v", l, best, e)
		}
		for _, b := range l {
			if b != best && (!isBetter(best, b) || isBetter(b, best)) {
				t.Fatalf("of %v the best is %v, not better than %v", l, best, b)
			}
		}
	}
}

// TestWalk: whatever is done, in whatever order, the tally tells what its model tells.
func TestWalk(t *testing.T) {
	x := chance(2)
	for range 200 {
		n := counts[x.below(4)]
		p := begin(t, n)
		for range 60 {
			node := x.below(n+2) - 1
			switch x.below(12) {
			case 0, 1, 2:
				p.forget(node)
			case 3:
				if x.below(5) == 0 {
					p.clear()
				}
			default:
				p.add(Bid{node, x.below(5) - 1 + x.below(2)*(big-3), x.below(5) - 1})
			}
		}
		if t.Failed() {
			break
		}
	}
}
