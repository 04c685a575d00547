package panel

import (
	"math"
	"slices"
	"testing"

	"sexton/api"
)

// panels are the numbers of nodes that a panel may have.
var panels = []int{1, 3, 5, 7}

// noPanels are numbers of nodes that no panel has.
var noPanels = []int{math.MinInt, -7, -3, -1, 0, 2, 4, 6, 8, 9, 11, 63, 64, 65, 1 << 32, 1<<32 + 3, math.MaxInt}

// outside are numbers that are neither a view nor an ack.
var outside = []int{math.MinInt, -1, api.MaxBig + 1, math.MaxInt}

func wantFaults(t *testing.T, n, want int, wantE api.Errno) {
	t.Helper()
	if f, e := Faults(n); f != want || e != wantE {
		t.Errorf("Faults(%d): %d, %v, want %d, %v", n, f, e, want, wantE)
	}
}

func wantReplica(t *testing.T, n, node int, want bool, wantE api.Errno) {
	t.Helper()
	if is, e := Replica(n, node); is != want || e != wantE {
		t.Errorf("Replica(%d, %d): %v, %v, want %v, %v", n, node, is, e, want, wantE)
	}
}

func wantPrimary(t *testing.T, n, view, want int, wantE api.Errno) {
	t.Helper()
	if node, e := Primary(n, view); node != want || e != wantE {
		t.Errorf("Primary(%d, %d): %d, %v, want %d, %v", n, view, node, e, want, wantE)
	}
}

func wantTurn(t *testing.T, n, view, node, want int, wantE api.Errno) {
	t.Helper()
	if v, e := Turn(n, view, node); v != want || e != wantE {
		t.Errorf("Turn(%d, %d, %d): %d, %v, want %d, %v", n, view, node, v, e, want, wantE)
	}
}

func wantEnough(t *testing.T, n, set int, want bool, wantE api.Errno) {
	t.Helper()
	if is, e := Enough(n, set); is != want || e != wantE {
		t.Errorf("Enough(%d, %d): %v, %v, want %v, %v", n, set, is, e, want, wantE)
	}
}

func wantNodes(t *testing.T, n, set int, want []int, wantE api.Errno) {
	t.Helper()
	if l, e := Nodes(n, set); !slices.Equal(l, want) || e != wantE {
		t.Errorf("Nodes(%d, %d): %v, %v, want %v, %v", n, set, l, e, want, wantE)
	}
}

func wantReached(t *testing.T, n int, acks []int, want int, wantE api.Errno) {
	t.Helper()
	if number, e := Reached(n, acks); number != want || e != wantE {
		t.Errorf("Reached(%d, %v): %d, %v, want %d, %v", n, acks, number, e, want, wantE)
	}
}

// full is the set of all nodes.
func full(n int) int { return 1<<n - 1 }

// 6.1

func TestFaults(t *testing.T) {
	for f, n := range panels {
		wantFaults(t, n, f, api.OK)
	}
	for _, n := range noPanels {
		wantFaults(t, n, 0, api.ErrArg)
	}
}

func TestReplica(t *testing.T) {
	for f, n := range panels {
		for node := range n {
			wantReplica(t, n, node, node <= f, api.OK)
		}
		for _, node := range []int{math.MinInt, -1, n, n + 1, math.MaxInt} {
			wantReplica(t, n, node, false, api.ErrArg)
		}
	}
	wantReplica(t, 1, 0, true, api.OK)
	wantReplica(t, 3, 1, true, api.OK)
	wantReplica(t, 3, 2, false, api.OK)
	wantReplica(t, 7, 3, true, api.OK)
	wantReplica(t, 7, 4, false, api.OK)
	wantReplica(t, 7, 6, false, api.OK)
}

func TestPrimary(t *testing.T) {
	for f, n := range panels {
		for view := range 50 {
			wantPrimary(t, n, view, view%(f+1), api.OK)
		}
		for _, view := range outside {
			wantPrimary(t, n, view, 0, api.ErrArg)
		}
	}
	// 2^40 is 1 mod 3, and 0 mod 1, 2 and 4
	for i, want := range []int{0, 0, 1, 0} {
		wantPrimary(t, panels[i], api.MaxBig, want, api.OK)
	}
	for i, want := range []int{0, 1, 0, 3} {
		wantPrimary(t, panels[i], api.MaxBig-1, want, api.OK)
	}
}

// plainTurn looks at one view behind the other.
func plainTurn(n, view, node int) (int, api.Errno) {
	for v := view + 1; v <= api.MaxBig; v++ {
		if v%(n/2+1) == node {
			return v, api.OK
		}
	}
	return 0, api.ErrNone
}

func TestTurn(t *testing.T) {
	for f, n := range panels {
		for node := range f + 1 {
			for i := range 50 {
				for _, view := range []int{i, api.MaxBig - i} {
					want, wantE := plainTurn(n, view, node)
					wantTurn(t, n, view, node, want, wantE)
				}
			}
		}
	}
}

func TestTurnBehindMaxBig(t *testing.T) {
	wantTurn(t, 1, api.MaxBig-1, 0, api.MaxBig, api.OK)
	for f, n := range panels {
		for node := range f + 1 {
			wantTurn(t, n, api.MaxBig, node, 0, api.ErrNone)
		}
	}
	// n 5: MaxBig is node 1's, MaxBig - 1 node 0's, MaxBig - 2 node 2's
	wantTurn(t, 5, api.MaxBig-1, 1, api.MaxBig, api.OK)
	wantTurn(t, 5, api.MaxBig-1, 0, 0, api.ErrNone)
	wantTurn(t, 5, api.MaxBig-1, 2, 0, api.ErrNone)
	wantTurn(t, 5, api.MaxBig-2, 2, 0, api.ErrNone)
	wantTurn(t, 5, api.MaxBig-2, 0, api.MaxBig-1, api.OK)
	wantTurn(t, 5, api.MaxBig-3, 2, api.MaxBig-2, api.OK)
}

func TestTurnTellsTheArgumentFirst(t *testing.T) {
	for f, n := range panels {
		for _, view := range []int{0, 4, api.MaxBig} {
			for _, node := range []int{math.MinInt, -1, f + 1, n - 1, n, math.MaxInt} {
				if node != f { // of n 1, n - 1 is a replica
					wantTurn(t, n, view, node, 0, api.ErrArg)
				}
			}
		}
		for _, view := range outside {
			for node := -1; node <= n; node++ {
				wantTurn(t, n, view, node, 0, api.ErrArg)
			}
		}
	}
}

func TestNoPanel(t *testing.T) {
	for _, n := range noPanels {
		for _, x := range []int{math.MinInt, -1, 0, 1, 7, api.MaxBig, api.MaxBig + 1, math.MaxInt} {
			wantReplica(t, n, x, false, api.ErrArg)
			wantPrimary(t, n, x, 0, api.ErrArg)
			wantEnough(t, n, x, false, api.ErrArg)
			wantNodes(t, n, x, nil, api.ErrArg)
			for _, node := range []int{-1, 0, 1, 7} {
				wantTurn(t, n, x, node, 0, api.ErrArg)
			}
		}
		wantReached(t, n, nil, 0, api.ErrArg)
		if 0 < n && n < 100 {
			wantReached(t, n, make([]int, n), 0, api.ErrArg)
		}
	}
}

// 6.2

// members are a set's nodes, told bit by bit.
func members(set int) []int {
	var l []int
	for node := 0; set > 0; node, set = node+1, set/2 {
		if set%2 == 1 {
			l = append(l, node)
		}
	}
	return l
}

func TestEverySet(t *testing.T) {
	for f, n := range panels {
		for set := range full(n) + 1 {
			l := members(set)
			wantNodes(t, n, set, l, api.OK)
			wantEnough(t, n, set, len(l) >= f+1, api.OK)
		}
	}
}

func TestSetsAtTheEdges(t *testing.T) {
	for _, n := range panels {
		for _, set := range []int{math.MinInt, -1, full(n) + 1, full(n) + 2, 1 << 40, math.MaxInt} {
			wantEnough(t, n, set, false, api.ErrArg)
			wantNodes(t, n, set, nil, api.ErrArg)
		}
		wantEnough(t, n, 0, false, api.OK)
		wantNodes(t, n, 0, nil, api.OK)
		wantEnough(t, n, full(n), true, api.OK)
	}
	wantNodes(t, 7, 127, []int{0, 1, 2, 3, 4, 5, 6}, api.OK)
	wantNodes(t, 7, 0b1010010, []int{1, 4, 6}, api.OK)
	wantEnough(t, 7, 0b1010010, false, api.OK)
	wantEnough(t, 7, 0b1011010, true, api.OK)
	wantEnough(t, 1, 1, true, api.OK)
}

func TestNodesIsNewMemory(t *testing.T) {
	a, _ := Nodes(7, 85)
	b, _ := Nodes(7, 85)
	for i := range a[:cap(a)] {
		a[:cap(a)][i] = -7
	}
	if !slices.Equal(b, []int{0, 2, 4, 6}) {
		t.Errorf("the second answer became %v", b)
	}
	wantNodes(t, 7, 85, []int{0, 2, 4, 6}, api.OK)
}

func TestReached(t *testing.T) {
	for _, c := range []struct {
		want int
		acks []int
	}{
		{0, []int{0}},
		{9, []int{9}},
		{api.MaxBig, []int{api.MaxBig}},
		{2, []int{1, 2, 3}},
		{2, []int{3, 1, 2}},
		{3, []int{3, 0, 3}},
		{3, []int{api.MaxBig, 0, 3}},
		{0, []int{0, api.MaxBig, 0}},
		{6, []int{6, 6, 6, 6, 6}},
		{6, []int{6, 7, 6, 7, 6}},
		{7, []int{6, 7, 7, 7, 6}},
		{0, []int{0, 0, 8, 0, 8}},
		{api.MaxBig, []int{api.MaxBig, 0, api.MaxBig, 0, api.MaxBig}},
		{4, []int{7, 6, 5, 4, 3, 2, 1}},
		{5, []int{5, 5, 9, 1, 5, 1, 0}},
		{api.MaxBig - 1, []int{0, api.MaxBig - 1, api.MaxBig, 0, api.MaxBig, 0, api.MaxBig}},
	} {
		wantReached(t, len(c.acks), c.acks, c.want, api.OK)
	}
}

func TestReachedCounts(t *testing.T) {
	for _, n := range panels {
		for _, k := range []int{0, 1, n - 2, n - 1, n + 1, n + 2, 100} {
			if k >= 0 && k != n {
				wantReached(t, n, make([]int, k), 0, api.ErrArg)
			}
		}
		wantReached(t, n, nil, 0, api.ErrArg)
		wantReached(t, n, make([]int, n), 0, api.OK)
	}
}

func TestReachedOutOfRange(t *testing.T) {
	for _, n := range panels {
		for node := range n {
			for _, ack := range outside {
				acks := make([]int, n)
				acks[node] = ack
				wantReached(t, n, acks, 0, api.ErrArg)
			}
		}
	}
}

func TestReachedChangesNothing(t *testing.T) {
	acks := []int{5, 1, 4, 2, 3, -8, -9}
	wantReached(t, 5, acks[:5], 3, api.OK)
	if !slices.Equal(acks, []int{5, 1, 4, 2, 3, -8, -9}) {
		t.Errorf("the acks became %v", acks)
	}
}

func TestExample(t *testing.T) {
	wantFaults(t, 5, 2, api.OK)
	for node := range 5 {
		wantReplica(t, 5, node, node <= 2, api.OK)
	}
	wantPrimary(t, 5, 4, 1, api.OK)
	wantTurn(t, 5, 4, 1, 7, api.OK)
	wantEnough(t, 5, 7, true, api.OK)
	wantReached(t, 5, []int{4, 9, 2, 7, 1}, 4, api.OK)
}

// 6.3

// enough are all sets of a panel that are enough.
func enough(t *testing.T, n int) []int {
	t.Helper()
	var l []int
	for set := range full(n) + 1 {
		is, e := Enough(n, set)
		if e != api.OK {
			t.Fatalf("Enough(%d, %d): %v", n, set, e)
		}
		if is {
			l = append(l, set)
		}
	}
	return l
}

func TestTwoThatAreEnoughMeet(t *testing.T) {
	for _, n := range panels {
		l := enough(t, n)
		if len(l) != 1<<(n-1) { // of a set and the rest of the nodes just one is
			t.Errorf("%d sets of %d nodes are enough", len(l), n)
		}
		for _, a := range l {
			for _, b := range l {
				if a&b == 0 {
					t.Errorf("of %d nodes: %b and %b", n, a, b)
				}
			}
		}
	}
}

func TestOneThatIsEnoughHasAReplica(t *testing.T) {
	for _, n := range panels {
		for _, set := range enough(t, n) {
			l, _ := Nodes(n, set)
			if !slices.ContainsFunc(l, func(node int) bool { is, _ := Replica(n, node); return is }) {
				t.Errorf("of %d nodes: %b", n, set)
			}
		}
		witnesses := 0
		for node := range n {
			if is, _ := Replica(n, node); !is {
				witnesses |= 1 << node
			}
		}
		wantEnough(t, n, witnesses, false, api.OK)
	}
}

// have is the set of the nodes that have at least a number.
func have(acks []int, number int) int {
	set := 0
	for node, ack := range acks {
		if ack >= number {
			set |= 1 << node
		}
	}
	return set
}

// Every list of numbers from 0 to 2, for each panel: enough have what Reached tells, and no greater number.
func TestReachedIsTheGreatest(t *testing.T) {
	for _, n := range panels {
		acks := make([]int, n)
		for {
			number, e := Reached(n, acks)
			if e != api.OK {
				t.Fatalf("Reached(%d, %v): %v", n, acks, e)
			}
			wantEnough(t, n, have(acks, number), true, api.OK)
			wantEnough(t, n, have(acks, number+1), false, api.OK)
			i := 0
			for i < n && acks[i] == 2 {
				acks[i] = 0
				i++
			}
			if i == n {
				break
			}
			acks[i]++
		}
	}
}

func TestPrimariesAreReplicasInTurn(t *testing.T) {
	for _, n := range panels {
		for view := range 30 {
			node, _ := Primary(n, view)
			wantReplica(t, n, node, true, api.OK)
			next, e := Turn(n, view, node)
			if e != api.OK {
				t.Errorf("Turn(%d, %d, %d): %v", n, view, node, e)
			}
			wantPrimary(t, n, next, node, api.OK)
		}
	}
}
