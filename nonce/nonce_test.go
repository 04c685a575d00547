package nonce

import (
	"math"
	"slices"
	"testing"

	"sexton/api"
)

// counts are the numbers of nodes that a vector may have.
var counts = []int{1, 3, 5, 7}

// noCounts are numbers of nodes that no vector has.
var noCounts = []int{math.MinInt, -7, -3, -1, 0, 2, 4, 6, 8, 9, 11, 13, 1<<32 + 1, math.MaxInt}

// outside are numbers that are no nonce.
var outside = []int{math.MinInt, -2, -1, api.MaxBig + 1, 1<<41 + 1, math.MaxInt}

const big = api.MaxBig

// roomy is v in memory of its own, with spare room that is all marked.
func roomy(v []int) []int {
	l := make([]int, len(v), len(v)+3)
	copy(l, v)
	mark(l[len(v):cap(l)])
	return l
}

// mark fills a list, and its spare room, with what no answer has.
func mark(l []int) {
	l = l[:cap(l)]
	for i := range l {
		l[i] = -77
	}
}

// untouched holds a list that was handed in, made by roomy, against what it was.
func untouched(t *testing.T, what string, l, was []int) {
	t.Helper()
	spare := l[len(l):cap(l)]
	if !slices.Equal(l, was) || slices.ContainsFunc(spare, func(x int) bool { return x != -77 }) {
		t.Errorf("%s: what was handed in became %v (and %v); it was %v", what, l, spare, was)
	}
}

func wantNew(t *testing.T, n int, want []int, wantE api.Errno) {
	t.Helper()
	if v, e := New(n); !slices.Equal(v, want) || e != wantE {
		t.Errorf("New(%d): %v, %v; want %v, %v", n, v, e, want, wantE)
	}
}

func wantCheck(t *testing.T, v []int, want api.Errno) {
	t.Helper()
	l := roomy(v)
	if e := Check(l); e != want {
		t.Errorf("Check(%v): %v; want %v", v, e, want)
	}
	untouched(t, "Check", l, v)
}

func wantBegin(t *testing.T, n, node, nonce int, want []int, wantE api.Errno) {
	t.Helper()
	if v, e := Begin(n, node, nonce); !slices.Equal(v, want) || e != wantE {
		t.Errorf("Begin(%d, %d, %d): %v, %v; want %v, %v", n, node, nonce, v, e, want, wantE)
	}
}

// wantMerge holds an answer against what it should be, and looks whether it is memory of its own.
func wantMerge(t *testing.T, a, b, want, wantGrew []int, wantE api.Errno) {
	t.Helper()
	x, y := roomy(a), roomy(b)
	v, grew, e := Merge(x, y)
	if !slices.Equal(v, want) || !slices.Equal(grew, wantGrew) || e != wantE {
		t.Errorf("Merge(%v, %v): %v, %v, %v; want %v, %v, %v", a, b, v, grew, e, want, wantGrew, wantE)
	}
	mark(v)
	if !slices.Equal(grew, wantGrew) {
		t.Errorf("Merge(%v, %v): both lists share memory", a, b)
	}
	mark(grew)
	untouched(t, "Merge", x, a)
	untouched(t, "Merge", y, b)
}

func wantCovers(t *testing.T, a, b []int, want bool, wantE api.Errno) {
	t.Helper()
	x, y := roomy(a), roomy(b)
	if is, e := Covers(x, y); is != want || e != wantE {
		t.Errorf("Covers(%v, %v): %v, %v; want %v, %v", a, b, is, e, want, wantE)
	}
	untouched(t, "Covers", x, a)
	untouched(t, "Covers", y, b)
}

func wantOld(t *testing.T, v []int, from int, said []int, want bool, wantE api.Errno) {
	t.Helper()
	x, y := roomy(v), roomy(said)
	if is, e := Old(x, from, y); is != want || e != wantE {
		t.Errorf("Old(%v, %d, %v): %v, %v; want %v, %v", v, from, said, is, e, want, wantE)
	}
	untouched(t, "Old", x, v)
	untouched(t, "Old", y, said)
}

// with is v with another nonce of a node.
func with(v []int, node, nonce int) []int {
	v = slices.Clone(v)
	v[node] = nonce
	return v
}

// noVectors are lists that are no vector: of other lengths, and of each length with a number that is no nonce, at each place.
func noVectors() [][]int {
	l := [][]int{nil, {}, {0, 0}, {1, 2, 3, 4}, make([]int, 6), make([]int, 8), make([]int, 9), make([]int, 63)}
	for _, n := range counts {
		for node := range n {
			for _, x := range outside {
				l = append(l, with(make([]int, n), node, x))
			}
		}
	}
	return l
}

// 20.1

func TestNew(t *testing.T) {
	for n := -1; n <= 9; n++ {
		if slices.Contains(counts, n) {
			wantNew(t, n, make([]int, n), api.OK)
		} else {
			wantNew(t, n, nil, api.ErrArg)
		}
	}
	for _, n := range noCounts {
		wantNew(t, n, nil, api.ErrArg)
	}
}

func TestCheck(t *testing.T) {
	for n := range 12 {
		want := api.ErrForm
		if slices.Contains(counts, n) {
			want = api.OK
		}
		wantCheck(t, make([]int, n), want)
		wantCheck(t, slices.Repeat([]int{7}, n), want)
		wantCheck(t, slices.Repeat([]int{big}, n), want)
	}
	for _, n := range counts {
		for node := range n {
			for _, x := range []int{0, 1, big - 1, big} {
				wantCheck(t, with(make([]int, n), node, x), api.OK)
			}
		}
	}
	for _, v := range noVectors() {
		wantCheck(t, v, api.ErrForm)
	}
}

func TestBegin(t *testing.T) {
	for _, n := range counts {
		for node := range n {
			for _, x := range []int{1, 2, 7, big - 1, big} {
				wantBegin(t, n, node, x, with(make([]int, n), node, x), api.OK)
			}
			wantBegin(t, n, node, 0, nil, api.ErrArg)
			for _, x := range outside {
				wantBegin(t, n, node, x, nil, api.ErrArg)
			}
		}
		for _, node := range []int{math.MinInt, -2, -1, n, n + 1, 64, math.MaxInt} {
			for _, x := range []int{-1, 0, 1, big, big + 1} {
				wantBegin(t, n, node, x, nil, api.ErrArg)
			}
		}
	}
	for _, n := range noCounts {
		for _, node := range []int{-1, 0, 1, 7} {
			for _, x := range []int{-1, 0, 1, big, big + 1} {
				wantBegin(t, n, node, x, nil, api.ErrArg)
			}
		}
	}
	wantBegin(t, 3, 1, 7, []int{0, 7, 0}, api.OK)
}

func TestAnswersAreNewMemory(t *testing.T) {
	for _, n := range counts {
		v, _ := New(n)
		mark(v)
		wantNew(t, n, make([]int, n), api.OK)
		v, _ = Begin(n, n-1, 5)
		mark(v)
		wantBegin(t, n, n-1, 5, with(make([]int, n), n-1, 5), api.OK)
	}
}

// 20.2

func TestExamples(t *testing.T) {
	wantMerge(t, []int{0, 5, 2}, []int{1, 5, 0}, []int{1, 5, 2}, []int{0}, api.OK)
	wantOld(t, []int{0, 5, 2}, 1, []int{0, 4, 9}, true, api.OK)
}

func TestMerge(t *testing.T) {
	for _, c := range []struct{ a, b, want, grew []int }{
		{[]int{0}, []int{0}, []int{0}, nil},
		{[]int{0}, []int{1}, []int{1}, []int{0}},
		{[]int{1}, []int{0}, []int{1}, nil},
		{[]int{big - 1}, []int{big}, []int{big}, []int{0}},
		{[]int{big}, []int{big}, []int{big}, nil},
		{[]int{1, 2, 3}, []int{3, 2, 1}, []int{3, 2, 3}, []int{0}},
		{[]int{3, 2, 1}, []int{1, 2, 3}, []int{3, 2, 3}, []int{2}},
		{[]int{0, 0, 0}, []int{0, big, 0}, []int{0, big, 0}, []int{1}},
		{[]int{0, 0, 0, 0, 0}, []int{1, 2, 3, 4, 5}, []int{1, 2, 3, 4, 5}, []int{0, 1, 2, 3, 4}},
		{[]int{9, 0, 9, 0, 9}, []int{0, 9, 0, 9, 0}, []int{9, 9, 9, 9, 9}, []int{1, 3}},
		{[]int{1, 2, 3, 4, 5, 6, 7}, []int{2, 1, 4, 3, 6, 5, 8}, []int{2, 2, 4, 4, 6, 6, 8}, []int{0, 2, 4, 6}},
		{[]int{big, 0, 0, 0, 0, 0, 0}, []int{0, 0, 0, 0, 0, 0, big}, []int{big, 0, 0, 0, 0, 0, big}, []int{6}},
	} {
		wantMerge(t, c.a, c.b, c.want, c.grew, api.OK)
	}
}

func TestCovers(t *testing.T) {
	for _, c := range []struct {
		a, b []int
		want bool
	}{
		{[]int{0}, []int{0}, true},
		{[]int{0}, []int{1}, false},
		{[]int{1}, []int{0}, true},
		{[]int{big}, []int{big}, true},
		{[]int{big - 1}, []int{big}, false},
		{[]int{1, 5, 2}, []int{1, 4, 2}, true},
		{[]int{1, 4, 2}, []int{1, 5, 2}, false},
		{[]int{0, 9, 9}, []int{1, 0, 0}, false},
		{[]int{9, 9, 0}, []int{0, 0, 1}, false},
		{[]int{9, 0, 9, 9, 9}, []int{9, 0, 9, 9, 9}, true},
		{[]int{9, 9, 9, 9, 9, 9, 8}, []int{0, 0, 0, 0, 0, 0, 9}, false},
	} {
		wantCovers(t, c.a, c.b, c.want, api.OK)
	}
	for _, n := range counts {
		zero := make([]int, n)
		for node := range n {
			one := with(zero, node, 1)
			wantCovers(t, one, zero, true, api.OK)
			wantCovers(t, zero, one, false, api.OK)
		}
	}
}

// TestOld: it is the node's own nonce that counts, whatever the others' are.
func TestOld(t *testing.T) {
	for _, n := range counts {
		for from := range n {
			for _, x := range []int{0, 1, 5, big - 1, big} {
				for _, y := range []int{0, 1, 5, big - 1, big} {
					for _, others := range []int{0, 3, big} {
						high, low := slices.Repeat([]int{others}, n), slices.Repeat([]int{big - others}, n)
						wantOld(t, with(high, from, x), from, with(low, from, y), y < x, api.OK)
					}
				}
			}
		}
	}
	wantOld(t, []int{0, 5, 2}, 1, []int{0, 5, 0}, false, api.OK)
	wantOld(t, []int{0, 5, 2}, 2, []int{9, 9, 1}, true, api.OK)
	wantOld(t, []int{0, 5, 2}, 0, []int{0, 0, 0}, false, api.OK)
}

func TestOldOfNoNode(t *testing.T) {
	for _, n := range counts {
		for _, from := range []int{math.MinInt, -2, -1, n, n + 1, 64, math.MaxInt} {
			wantOld(t, make([]int, n), from, make([]int, n), false, api.ErrArg)
			wantOld(t, slices.Repeat([]int{2}, n), from, slices.Repeat([]int{1}, n), false, api.ErrArg)
		}
	}
}

func TestNoVectors(t *testing.T) {
	some := [][]int{{0}, {0, 5, 2}, {1, 1, 1, 1, 1}, make([]int, 7)}
	for _, v := range noVectors() {
		// Beside each right one, and beside itself: a list that has as many is no vector either.
		for _, w := range append(slices.Clone(some), v) {
			for _, c := range [][2][]int{{v, w}, {w, v}} {
				wantMerge(t, c[0], c[1], nil, nil, api.ErrForm)
				wantCovers(t, c[0], c[1], false, api.ErrForm)
				// That a vector is none comes ahead of a from that is no node.
				for _, from := range []int{math.MinInt, -1, 0, 1, 7, math.MaxInt} {
					wantOld(t, c[0], from, c[1], false, api.ErrForm)
				}
			}
		}
	}
}

func TestNotAsManyNodes(t *testing.T) {
	for _, n := range counts {
		for _, m := range counts {
			if n == m {
				continue
			}
			a, b := slices.Repeat([]int{2}, n), slices.Repeat([]int{1}, m)
			wantMerge(t, a, b, nil, nil, api.ErrForm)
			wantCovers(t, a, b, false, api.ErrForm)
			for _, from := range []int{-1, 0, n - 1, n, m - 1, m, 7} {
				wantOld(t, a, from, b, false, api.ErrForm)
			}
		}
	}
}

// 20.3

// vectors are all vectors of n nodes with nonces up to most.
func vectors(n, most int) [][]int {
	l := [][]int{{}}
	for range n {
		var longer [][]int
		for _, v := range l {
			for x := range most + 1 {
				longer = append(longer, append(slices.Clone(v), x))
			}
		}
		l = longer
	}
	return l
}

// merged is Merge's vector, where it is to be right.
func merged(t *testing.T, a, b []int) []int {
	t.Helper()
	v, _, e := Merge(a, b)
	if e != api.OK || Check(v) != api.OK {
		t.Fatalf("Merge(%v, %v): %v, %v", a, b, v, e)
	}
	return v
}

func covers(t *testing.T, a, b []int) bool {
	t.Helper()
	is, e := Covers(a, b)
	if e != api.OK {
		t.Fatalf("Covers(%v, %v): %v", a, b, e)
	}
	return is
}

func TestMergingIsTheSame(t *testing.T) {
	for _, l := range [][][]int{vectors(1, 4), vectors(3, 2), vectors(5, 1), vectors(7, 1)} {
		for _, a := range l {
			for _, b := range l {
				v := merged(t, a, b)
				for _, again := range [][]int{merged(t, b, a), merged(t, v, a), merged(t, v, b), merged(t, a, v), merged(t, b, v), merged(t, v, v)} {
					if !slices.Equal(again, v) {
						t.Errorf("%v and %v: %v, and %v", a, b, v, again)
					}
				}
				if !covers(t, v, a) || !covers(t, v, b) {
					t.Errorf("%v and %v: %v", a, b, v)
				}
			}
		}
	}
}

// TestMergingThree: in whatever order; and each vector that covers two covers what these are merged.
func TestMergingThree(t *testing.T) {
	for _, l := range [][][]int{vectors(1, 4), vectors(3, 2), vectors(5, 1)} {
		for _, a := range l {
			for _, b := range l {
				v := merged(t, a, b)
				for _, c := range l {
					if x, y := merged(t, v, c), merged(t, a, merged(t, b, c)); !slices.Equal(x, y) {
						t.Errorf("%v, %v and %v: %v, and %v", a, b, c, x, y)
					}
					if (covers(t, c, a) && covers(t, c, b)) != covers(t, c, v) {
						t.Errorf("%v covers %v and %v, or %v", c, a, b, v)
					}
				}
			}
		}
	}
}

// TestWhoGrew: a node is told as one that grew where what it said with the vector ahead is old beside the new one.
func TestWhoGrew(t *testing.T) {
	for _, l := range [][][]int{vectors(1, 4), vectors(3, 2), vectors(5, 1), vectors(7, 1)} {
		for _, a := range l {
			for _, b := range l {
				v, grew, _ := Merge(a, b)
				var want []int
				for node := range len(a) {
					if old, e := Old(v, node, a); e != api.OK {
						t.Fatalf("Old(%v, %d, %v): %v", v, node, a, e)
					} else if old {
						want = append(want, node)
					}
				}
				if !slices.Equal(grew, want) {
					t.Errorf("Merge(%v, %v): %v grew; want %v", a, b, grew, want)
				}
			}
		}
	}
}
