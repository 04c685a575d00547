package oplog

import (
	"fmt"
	"math"
	"slices"
	"strings"
	"testing"

	"sexton/api"
)

// item is a right item of a view, which the other fields tell from others of that view.
func item(view, mark int) api.Item {
	return api.Item{View: view, Client: mark % 5, Req: mark + 1, Body: fmt.Sprint("body ", mark)}
}

// items are right items of these views.
func items(views ...int) []api.Item {
	var x []api.Item
	for i, v := range views {
		x = append(x, item(v, 100+i))
	}
	return x
}

// same are n right items of view 0.
func same(n int) []api.Item { return items(make([]int, n)...) }

// wrongItems are items of which one thing is not right.
func wrongItems() []api.Item {
	x := []api.Item{{}, {View: 1, Client: 1, Body: "a"}}
	for _, v := range []int{-1, api.MaxBig + 1, math.MinInt, math.MaxInt} {
		x = append(x, api.Item{View: v, Req: 1}, api.Item{Client: v, Req: 1}, api.Item{Req: v})
	}
	return append(x, api.Item{Req: 1, Body: strings.Repeat("x", 4097)}, api.Item{Req: 1, Body: strings.Repeat("x", 70000)})
}

// edgeItems are right items at the edges, of views that do not fall.
func edgeItems() []api.Item {
	return []api.Item{
		{Req: 1},
		{Req: api.MaxBig},
		{Client: api.MaxBig, Req: 1},
		{Req: 2, Body: "\x00\xff"},
		{Req: 2, Body: strings.Repeat("x", 4096)},
		{View: 1, Req: 1},
		{View: api.MaxBig, Req: 1},
		{View: api.MaxBig, Client: api.MaxBig, Req: api.MaxBig, Body: strings.Repeat("y", 4096)},
	}
}

func newLog(t *testing.T, base int) *Log {
	t.Helper()
	l, e := New(base)
	if l == nil || e != api.OK {
		t.Fatalf("New(%d): %v, %v", base, l, e)
	}
	return l
}

// filled is a log with that base and those items.
func filled(t *testing.T, base int, x []api.Item) *Log {
	t.Helper()
	l := newLog(t, base)
	for i, y := range x {
		wantAdd(t, l, y, base+i+1, api.OK)
	}
	return l
}

// trimmed is a log with the items of views 1, 1, 2, 4 under the numbers 8 to 11, and Base 7: it had 6 and 7 too.
func trimmed(t *testing.T) *Log {
	t.Helper()
	l := filled(t, 5, items(0, 1, 1, 1, 2, 4))
	wantTrim(t, l, 7, api.OK)
	return l
}

func wantAdd(t *testing.T, l *Log, x api.Item, want int, wantE api.Errno) {
	t.Helper()
	if n, e := l.Add(x); n != want || e != wantE {
		t.Errorf("Add(%.60v): %d, %v, want %d, %v", x, n, e, want, wantE)
	}
}

func wantGet(t *testing.T, l *Log, n int, want api.Item, wantE api.Errno) {
	t.Helper()
	if x, e := l.Get(n); x != want || e != wantE {
		t.Errorf("Get(%d): %.60v, %v, want %.60v, %v", n, x, e, want, wantE)
	}
}

func wantBehind(t *testing.T, l *Log, n, most int, want []api.Item, wantE api.Errno) {
	t.Helper()
	if x, e := l.Behind(n, most); !slices.Equal(x, want) || e != wantE {
		t.Errorf("Behind(%d, %d): %.60v, %v, want %.60v, %v", n, most, x, e, want, wantE)
	}
}

func wantCut(t *testing.T, l *Log, n int, want api.Errno) {
	t.Helper()
	if e := l.Cut(n); e != want {
		t.Errorf("Cut(%d): %v, want %v", n, e, want)
	}
}

func wantTrim(t *testing.T, l *Log, n int, want api.Errno) {
	t.Helper()
	if e := l.Trim(n); e != want {
		t.Errorf("Trim(%d): %v, want %v", n, e, want)
	}
}

func wantPut(t *testing.T, l *Log, n int, x []api.Item, want api.Errno) {
	t.Helper()
	if e := l.Put(n, x); e != want {
		t.Errorf("Put(%d, %d items): %v, want %v", n, len(x), e, want)
	}
}

// wantLog asks a log for all that it may tell.
func wantLog(t *testing.T, l *Log, base int, want []api.Item) {
	t.Helper()
	view := 0
	if len(want) > 0 {
		view = want[len(want)-1].View
	}
	if b, last, v := l.Base(), l.Last(), l.View(); b != base || last != base+len(want) || v != view {
		t.Errorf("Base %d, Last %d, View %d, want %d, %d, %d", b, last, v, base, base+len(want), view)
	}
	wantBehind(t, l, base, MaxItems, want, api.OK)
	for i, x := range want {
		wantGet(t, l, base+1+i, x, api.OK)
	}
	wantGet(t, l, base+len(want)+1, api.Item{}, api.ErrNone)
	wantGet(t, l, 0, api.Item{}, api.ErrNone)
	if base > 0 {
		wantGet(t, l, base, api.Item{}, api.ErrGone)
		wantGet(t, l, 1, api.Item{}, api.ErrGone)
	}
}

// 5.1

func TestNewBases(t *testing.T) {
	for _, base := range []int{0, 1, 5, api.MaxBig - 1, api.MaxBig} {
		wantLog(t, newLog(t, base), base, nil)
	}
	for _, base := range []int{-1, api.MaxBig + 1, math.MinInt, math.MaxInt} {
		if l, e := New(base); l != nil || e != api.ErrArg {
			t.Errorf("New(%d): %v, %v", base, l, e)
		}
	}
}

func TestLogsAreApart(t *testing.T) {
	a, b := newLog(t, 3), newLog(t, 3)
	wantAdd(t, a, item(1, 1), 4, api.OK)
	wantLog(t, b, 3, nil)
}

func TestAddTakesWhatIsRight(t *testing.T) {
	l, want := newLog(t, 0), []api.Item(nil)
	for i, x := range edgeItems() {
		wantAdd(t, l, x, i+1, api.OK)
		want = append(want, x)
		wantLog(t, l, 0, want)
	}
}

func TestAddRefusesWhatIsNotRight(t *testing.T) {
	for _, views := range [][]int{nil, {0, 3}} {
		l := filled(t, 2, items(views...))
		for _, x := range wrongItems() {
			wantAdd(t, l, x, 0, api.ErrForm)
		}
		wantLog(t, l, 2, items(views...))
	}
}

func TestAddViews(t *testing.T) {
	l := filled(t, 0, items(0, 0, 3, 3, 7))
	for _, view := range []int{0, 1, 6} {
		wantAdd(t, l, item(view, 1), 0, api.ErrState)
	}
	wantLog(t, l, 0, items(0, 0, 3, 3, 7))
	wantAdd(t, l, item(7, 1), 6, api.OK)
	wantAdd(t, l, item(api.MaxBig, 1), 7, api.OK)
	wantAdd(t, l, item(api.MaxBig-1, 1), 0, api.ErrState)
	wantAdd(t, l, item(api.MaxBig, 1), 8, api.OK)
}

func TestViewIsTheLastItems(t *testing.T) {
	l := filled(t, 5, items(2, 3, 8))
	wantCut(t, l, 7, api.OK)
	wantLog(t, l, 5, items(2, 3))
	wantAdd(t, l, item(2, 9), 0, api.ErrState)
	wantTrim(t, l, 7, api.OK)
	wantLog(t, l, 7, nil) // and View is 0: the last item was trimmed
	wantAdd(t, l, item(0, 9), 8, api.OK)
	wantAdd(t, l, item(1, 9), 9, api.OK)
	wantCut(t, l, 7, api.OK)
	wantLog(t, l, 7, nil)
	wantAdd(t, l, item(0, 9), 8, api.OK)
}

func TestAddFull(t *testing.T) {
	l := filled(t, 40, same(MaxItems-1))
	wantAdd(t, l, item(0, 1), 296, api.OK)
	wantAdd(t, l, item(0, 1), 0, api.ErrFull)
	wantLog(t, l, 40, append(same(255), item(0, 1)))
	wantTrim(t, l, 41, api.OK)
	wantAdd(t, l, item(0, 2), 297, api.OK)
	wantAdd(t, l, item(0, 2), 0, api.ErrFull)
	wantCut(t, l, 296, api.OK)
	wantAdd(t, l, item(0, 3), 297, api.OK)
	wantAdd(t, l, item(0, 3), 0, api.ErrFull)
	wantGet(t, l, 297, item(0, 3), api.OK)
}

func TestAddUpToMaxBig(t *testing.T) {
	l := newLog(t, api.MaxBig-2)
	wantAdd(t, l, item(0, 1), api.MaxBig-1, api.OK)
	wantAdd(t, l, item(0, 2), api.MaxBig, api.OK)
	wantAdd(t, l, item(0, 3), 0, api.ErrFull)
	wantLog(t, l, api.MaxBig-2, []api.Item{item(0, 1), item(0, 2)})
	wantTrim(t, l, api.MaxBig, api.OK)
	wantAdd(t, l, item(0, 3), 0, api.ErrFull)
	wantLog(t, l, api.MaxBig, nil)
	wantAdd(t, newLog(t, api.MaxBig), item(0, 1), 0, api.ErrFull)
}

func TestAddTellsTheFirstFault(t *testing.T) {
	views := make([]int, MaxItems)
	views[MaxItems-1] = 5
	for _, l := range []*Log{filled(t, 0, items(views...)), filled(t, api.MaxBig-1, items(5))} {
		wantAdd(t, l, api.Item{View: 4}, 0, api.ErrForm)
		wantAdd(t, l, api.Item{View: 5}, 0, api.ErrForm)
		wantAdd(t, l, api.Item{View: -1, Req: 1}, 0, api.ErrForm)
		wantAdd(t, l, item(4, 1), 0, api.ErrState)
		wantAdd(t, l, item(5, 1), 0, api.ErrFull)
	}
	l := filled(t, 0, items(5))
	wantAdd(t, l, api.Item{View: 4}, 0, api.ErrForm)
}

// 5.2

func TestGet(t *testing.T) {
	l := trimmed(t)
	want := items(0, 1, 1, 1, 2, 4)
	for _, n := range []int{1, 5, 6, 7} {
		wantGet(t, l, n, api.Item{}, api.ErrGone)
	}
	for _, n := range []int{math.MinInt, -1, 0, 12, 13, api.MaxBig, math.MaxInt} {
		wantGet(t, l, n, api.Item{}, api.ErrNone)
	}
	for n := 8; n <= 11; n++ {
		wantGet(t, l, n, want[n-6], api.OK)
	}
	wantLog(t, l, 7, want[2:])
}

func TestGetWhereNothingIsTrimmed(t *testing.T) {
	l := filled(t, 0, items(3))
	wantGet(t, l, 0, api.Item{}, api.ErrNone)
	wantGet(t, l, 1, item(3, 100), api.OK)
	wantGet(t, l, 2, api.Item{}, api.ErrNone)
}

func TestGetAtMaxBig(t *testing.T) {
	l := filled(t, api.MaxBig-1, items(3))
	wantGet(t, l, api.MaxBig-1, api.Item{}, api.ErrGone)
	wantGet(t, l, api.MaxBig, item(3, 100), api.OK)
	wantGet(t, l, api.MaxBig+1, api.Item{}, api.ErrNone)
	wantTrim(t, l, api.MaxBig, api.OK)
	wantGet(t, l, api.MaxBig, api.Item{}, api.ErrGone)
}

func TestBehind(t *testing.T) {
	l := trimmed(t)
	all := items(0, 1, 1, 1, 2, 4)[2:]
	for n := 7; n <= 11; n++ {
		rest := all[n-7:]
		for most := range len(rest) {
			wantBehind(t, l, n, most, rest[:most], api.OK)
		}
		for _, most := range []int{len(rest), len(rest) + 1, MaxItems, math.MaxInt} {
			wantBehind(t, l, n, most, rest, api.OK)
		}
	}
	for _, most := range []int{0, 1, 9, math.MaxInt} {
		for _, n := range []int{0, 1, 5, 6} {
			wantBehind(t, l, n, most, nil, api.ErrGone)
		}
		for _, n := range []int{-1, 12, 13, math.MinInt, math.MaxInt} {
			wantBehind(t, l, n, most, nil, api.ErrNone)
		}
	}
	wantLog(t, l, 7, all)
}

func TestBehindTellsTheFirstFault(t *testing.T) {
	l := trimmed(t)
	for _, most := range []int{-1, math.MinInt} {
		for _, n := range []int{-1, 0, 6, 7, 8, 11, 12} {
			wantBehind(t, l, n, most, nil, api.ErrArg)
		}
	}
}

func TestBehindOfFewItems(t *testing.T) {
	l := newLog(t, 0)
	wantBehind(t, l, 0, 0, nil, api.OK)
	wantBehind(t, l, 0, 1, nil, api.OK)
	wantBehind(t, l, 1, 1, nil, api.ErrNone)
	l = filled(t, api.MaxBig-1, items(1))
	wantBehind(t, l, api.MaxBig-1, math.MaxInt, items(1), api.OK)
	wantBehind(t, l, api.MaxBig, math.MaxInt, nil, api.OK)
	wantBehind(t, l, api.MaxBig+1, 1, nil, api.ErrNone)
}

// spoil writes over all that a slice has room for.
func spoil(x []api.Item) {
	x = x[:cap(x)]
	for i := range x {
		x[i] = item(77, 7700)
	}
}

func TestWhatIsToldIsNewMemory(t *testing.T) {
	l := filled(t, 0, items(0, 1, 2, 3, 4))
	for n := range 6 {
		for most := range 6 {
			a, _ := l.Behind(n, most)
			b, _ := l.Behind(n, most)
			kept := slices.Clone(b)
			spoil(a)
			if !slices.Equal(b, kept) {
				t.Errorf("Behind(%d, %d): the second answer became %v", n, most, b)
			}
			wantLog(t, l, 0, items(0, 1, 2, 3, 4))
		}
	}
	told, _ := l.Behind(0, 9)
	wantPut(t, l, 2, items(9, 9), api.OK)
	wantAdd(t, l, item(9, 1), 5, api.OK)
	wantTrim(t, l, 1, api.OK)
	if !slices.Equal(told, items(0, 1, 2, 3, 4)) {
		t.Errorf("what was told became %v", told)
	}
}

// 5.3

func TestCut(t *testing.T) {
	all := items(0, 1, 1, 1, 2, 4)[2:]
	for n := 7; n <= 11; n++ {
		l := trimmed(t)
		wantCut(t, l, n, api.OK)
		wantLog(t, l, 7, all[:n-7])
		wantCut(t, l, n, api.OK)
		wantCut(t, l, n+1, api.ErrNone)
		wantLog(t, l, 7, all[:n-7])
	}
}

func TestCutFaults(t *testing.T) {
	l := trimmed(t)
	for _, n := range []int{-1, 12, 13, math.MinInt, math.MaxInt} {
		wantCut(t, l, n, api.ErrNone)
	}
	for _, n := range []int{0, 1, 5, 6} {
		wantCut(t, l, n, api.ErrGone)
	}
	wantLog(t, l, 7, items(0, 1, 1, 1, 2, 4)[2:])
	l = filled(t, 0, items(1))
	wantCut(t, l, -1, api.ErrNone)
	wantCut(t, l, 2, api.ErrNone)
	wantCut(t, l, 0, api.OK)
	wantLog(t, l, 0, nil)
}

func TestAddBehindACut(t *testing.T) {
	l := filled(t, 0, items(0, 1, 2, 3))
	wantCut(t, l, 2, api.OK)
	wantAdd(t, l, item(1, 1), 3, api.OK)
	wantAdd(t, l, item(5, 2), 4, api.OK)
	wantLog(t, l, 0, append(items(0, 1), item(1, 1), item(5, 2)))
}

func TestTrim(t *testing.T) {
	all := items(0, 1, 1, 1, 2, 4)
	for n := 8; n <= 11; n++ {
		l := trimmed(t)
		wantTrim(t, l, n, api.OK)
		wantLog(t, l, n, all[n-5:])
		if l.Last() != 11 {
			t.Errorf("Trim(%d): Last %d", n, l.Last())
		}
	}
	for _, n := range []int{0, 1, 5, 6, 7} {
		l := trimmed(t)
		wantTrim(t, l, n, api.OK)
		wantLog(t, l, 7, all[2:])
	}
	for _, n := range []int{-1, 12, 13, math.MinInt, math.MaxInt} {
		l := trimmed(t)
		wantTrim(t, l, n, api.ErrNone)
		wantLog(t, l, 7, all[2:])
	}
}

func TestTrimOfALogWithoutItems(t *testing.T) {
	l := newLog(t, 0)
	wantTrim(t, l, 0, api.OK)
	wantTrim(t, l, 1, api.ErrNone)
	wantTrim(t, l, -1, api.ErrNone)
	wantLog(t, l, 0, nil)
}

func TestPut(t *testing.T) {
	all := items(0, 1, 1, 1, 2, 4)[2:]
	for n := 7; n <= 11; n++ {
		for _, x := range [][]api.Item{nil, {}, items(4), items(4, 4, 9), same(0)} {
			l := trimmed(t)
			wantPut(t, l, n, x, api.OK)
			wantLog(t, l, 7, slices.Concat(all[:n-7], x))
			wantAdd(t, l, item(9, 1), n+len(x)+1, api.OK)
			wantLog(t, l, 7, slices.Concat(all[:n-7], x, []api.Item{item(9, 1)}))
		}
	}
}

func TestPutPlaces(t *testing.T) {
	l := trimmed(t)
	for _, x := range [][]api.Item{nil, items(9), items(0), {{}}, items(5, 4), same(257)} {
		for _, n := range []int{-1, 12, 13, math.MinInt, math.MaxInt} {
			wantPut(t, l, n, x, api.ErrNone)
		}
		for _, n := range []int{0, 1, 5, 6} {
			wantPut(t, l, n, x, api.ErrGone)
		}
	}
	wantLog(t, l, 7, items(0, 1, 1, 1, 2, 4)[2:])
}

func TestPutForms(t *testing.T) {
	l := trimmed(t)
	for _, bad := range wrongItems() {
		for _, x := range [][]api.Item{{bad}, {item(5, 1), bad}, {bad, item(5, 1)}, {item(5, 1), bad, item(5, 1)}} {
			wantPut(t, l, 8, x, api.ErrForm)
		}
	}
	wantLog(t, l, 7, items(0, 1, 1, 1, 2, 4)[2:])
	l = newLog(t, 3)
	wantPut(t, l, 3, edgeItems(), api.OK)
	wantLog(t, l, 3, edgeItems())
}

func TestPutViews(t *testing.T) {
	l := trimmed(t) // 8: 1, 9: 1, 10: 2, 11: 4
	for _, c := range []struct{ n, view int }{{8, 0}, {9, 0}, {10, 1}, {11, 3}, {11, 2}, {11, 0}} {
		wantPut(t, l, c.n, items(c.view), api.ErrState)
		wantPut(t, l, c.n, items(c.view, 9), api.ErrState)
	}
	for _, views := range [][]int{{5, 4}, {4, 5, 4}, {9, 9, 8, 9}, {api.MaxBig, api.MaxBig - 1}, {4, 0}} {
		for _, n := range []int{7, 8, 11} {
			wantPut(t, l, n, items(views...), api.ErrState)
		}
	}
	wantLog(t, l, 7, items(0, 1, 1, 1, 2, 4)[2:])
	wantPut(t, l, 10, items(2, 2, 3), api.OK)
	wantPut(t, l, 8, items(1), api.OK)
	wantPut(t, l, 7, items(0), api.OK) // there is no item 7 any more, whose View was 1
	wantLog(t, l, 7, items(0))
}

func TestPutFull(t *testing.T) {
	l := newLog(t, 40)
	for _, n := range []int{255, 256} {
		wantPut(t, l, 40, same(n), api.OK)
		wantLog(t, l, 40, same(n))
	}
	for _, n := range []int{257, 300, 1000} {
		wantPut(t, l, 40, same(n), api.ErrFull)
	}
	wantLog(t, l, 40, same(256))
	wantPut(t, l, 296, nil, api.OK)
	wantPut(t, l, 296, same(1), api.ErrFull)
	wantPut(t, l, 295, same(2), api.ErrFull)
	wantPut(t, l, 295, same(1), api.OK)
	wantPut(t, l, 140, same(157), api.ErrFull)
	wantPut(t, l, 140, same(156), api.OK)
	wantLog(t, l, 40, append(same(100), same(156)...))
	wantTrim(t, l, 50, api.OK)
	wantPut(t, l, 296, same(11), api.ErrFull)
	wantPut(t, l, 296, same(10), api.OK)
	wantPut(t, l, 306, same(1), api.ErrFull)
}

func TestPutUpToMaxBig(t *testing.T) {
	l := filled(t, api.MaxBig-3, items(1, 2))
	wantPut(t, l, api.MaxBig-1, items(2, 2), api.ErrFull)
	wantPut(t, l, api.MaxBig-3, items(2, 2, 2, 2), api.ErrFull)
	wantLog(t, l, api.MaxBig-3, items(1, 2))
	wantPut(t, l, api.MaxBig-3, items(2, 2, 2), api.OK)
	wantPut(t, l, api.MaxBig, items(2), api.ErrFull)
	wantPut(t, l, api.MaxBig, nil, api.OK)
	wantPut(t, l, api.MaxBig+1, nil, api.ErrNone)
	wantLog(t, l, api.MaxBig-3, items(2, 2, 2))
	l = newLog(t, api.MaxBig)
	wantPut(t, l, api.MaxBig, items(2), api.ErrFull)
	wantPut(t, l, api.MaxBig, nil, api.OK)
}

func TestPutTellsTheFirstFault(t *testing.T) {
	l := filled(t, 0, items(5))
	wantPut(t, l, 1, append(items(4), api.Item{}), api.ErrForm)
	wantPut(t, l, 1, append(same(300), api.Item{}), api.ErrForm)
	wantPut(t, l, 1, same(300), api.ErrState)
	wantPut(t, l, 0, append(items(9), same(300)...), api.ErrState)
	wantPut(t, l, 0, same(300), api.ErrFull)
	l = filled(t, api.MaxBig-1, items(5))
	wantPut(t, l, api.MaxBig, []api.Item{{View: 4}}, api.ErrForm)
	wantPut(t, l, api.MaxBig, items(4), api.ErrState)
	wantPut(t, l, api.MaxBig, items(5), api.ErrFull)
}

func TestWhatIsHandedInIsNotKept(t *testing.T) {
	for n := range 3 {
		l := filled(t, 0, items(0, 1))
		x := append(make([]api.Item, 0, 10), items(2, 3)...)
		spare := x[2:10]
		wantPut(t, l, n, x, api.OK)
		wantAdd(t, l, item(4, 1), n+3, api.OK)
		wantCut(t, l, n+1, api.OK)
		wantAdd(t, l, item(4, 2), n+2, api.OK)
		if !slices.Equal(x, items(2, 3)) || !slices.Equal(spare, make([]api.Item, 8)) {
			t.Errorf("what was handed in became %v, behind it %v", x, spare)
		}
		want := append(items(0, 1)[:n], items(2)[0], item(4, 2))
		wantLog(t, l, 0, want)
		spoil(x)
		wantLog(t, l, 0, want)
	}
}

func TestNilLog(t *testing.T) {
	var l *Log
	if l.Base() != 0 || l.Last() != 0 || l.View() != 0 {
		t.Errorf("Base %d, Last %d, View %d", l.Base(), l.Last(), l.View())
	}
	for _, x := range wrongItems() {
		wantAdd(t, l, x, 0, api.ErrForm)
	}
	for _, x := range edgeItems() {
		wantAdd(t, l, x, 0, api.ErrFull)
	}
	for _, n := range []int{-1, 0, 1, 7, api.MaxBig, math.MinInt, math.MaxInt} {
		wantGet(t, l, n, api.Item{}, api.ErrNone)
		for _, most := range []int{-1, math.MinInt} {
			wantBehind(t, l, n, most, nil, api.ErrArg)
		}
		for _, most := range []int{0, 1, math.MaxInt} {
			wantBehind(t, l, n, most, nil, api.ErrNone)
		}
		wantCut(t, l, n, api.ErrNone)
		wantTrim(t, l, n, api.ErrNone)
		for _, x := range [][]api.Item{nil, items(1), {{}}, items(2, 1), same(257)} {
			wantPut(t, l, n, x, api.ErrNone)
		}
	}
}

func TestLogThatNewDidNotMake(t *testing.T) {
	var l Log
	wantLog(t, &l, 0, nil)
	wantAdd(t, &l, item(1, 1), 1, api.OK)
	wantPut(t, &l, 1, items(1, 2), api.OK)
	wantLog(t, &l, 0, append([]api.Item{item(1, 1)}, items(1, 2)...))
}

func TestExample(t *testing.T) {
	l := newLog(t, 5)
	wantAdd(t, l, item(0, 1), 6, api.OK)
	wantAdd(t, l, item(0, 2), 7, api.OK)
	wantTrim(t, l, 6, api.OK)
	wantGet(t, l, 6, api.Item{}, api.ErrGone)
	wantGet(t, l, 8, api.Item{}, api.ErrNone)
	wantCut(t, l, 6, api.OK)
	if l.Last() != 6 {
		t.Errorf("Last: %d", l.Last())
	}
}

// 5.4

func TestTrimmedIsNeverToldAgain(t *testing.T) {
	l := filled(t, 0, items(1, 2, 3))
	wantTrim(t, l, 2, api.OK)
	wantTrim(t, l, 0, api.OK)
	wantTrim(t, l, 1, api.OK)
	wantCut(t, l, 2, api.OK)
	wantPut(t, l, 1, items(9), api.ErrGone)
	wantCut(t, l, 1, api.ErrGone)
	wantAdd(t, l, item(0, 1), 3, api.OK)
	for n := 1; n <= 2; n++ {
		wantGet(t, l, n, api.Item{}, api.ErrGone)
	}
	for n := range 2 {
		wantBehind(t, l, n, 9, nil, api.ErrGone)
	}
	wantLog(t, l, 2, []api.Item{item(0, 1)})
}

func TestAnItemStaysUnderItsNumber(t *testing.T) {
	l, kept := newLog(t, 10), item(3, 55)
	wantAdd(t, l, item(1, 1), 11, api.OK)
	wantAdd(t, l, kept, 12, api.OK)
	for i := range 1000 {
		x := item(3+i, i)
		switch i % 4 {
		case 0, 1:
			wantAdd(t, l, x, l.Last()+1, api.OK)
		case 2:
			wantPut(t, l, l.Last()-1, []api.Item{x, x, x}, api.OK)
		case 3:
			wantCut(t, l, max(12, l.Last()-i%40), api.OK)
		}
		if i == 500 {
			wantTrim(t, l, 11, api.OK)
		}
		wantGet(t, l, 12, kept, api.OK)
	}
	wantTrim(t, l, 12, api.OK)
	wantGet(t, l, 12, api.Item{}, api.ErrGone)
}

// model is a log as a plain map of items by their numbers.
type model struct {
	base, last int
	of         map[int]api.Item
}

// put is Put, put plainly.
func (m *model) put(n int, x []api.Item) api.Errno {
	if n < 0 || n > m.last {
		return api.ErrNone
	}
	if n < m.base {
		return api.ErrGone
	}
	view := m.of[n].View
	for _, y := range x {
		if y.View < view {
			return api.ErrState
		}
		view = y.View
	}
	if n-m.base+len(x) > MaxItems {
		return api.ErrFull
	}
	for i := n + 1; i <= m.last; i++ {
		delete(m.of, i)
	}
	for i, y := range x {
		m.of[n+1+i] = y
	}
	m.last = n + len(x)
	return api.OK
}

// trim is Trim, put plainly.
func (m *model) trim(n int) api.Errno {
	if n < 0 || n > m.last {
		return api.ErrNone
	}
	for i := m.base + 1; i <= n; i++ {
		delete(m.of, i)
	}
	m.base = max(m.base, n)
	return api.OK
}

// A log is held against a plain map through many steps.
func TestAgainstAMap(t *testing.T) {
	m, l, x := &model{4, 4, map[int]api.Item{}}, newLog(t, 4), 1
	roll := func(n int) int {
		x = x * 48271 % (1<<31 - 1)
		return x % n
	}
	for step := range 20000 {
		n := m.base - 2 + roll(m.last-m.base+5)
		switch k := roll(100); {
		case k < 70:
			y := item(m.of[m.last].View+roll(3)-roll(2), step)
			want := api.ErrForm
			if y.View >= 0 {
				want = m.put(m.last, []api.Item{y})
			}
			number := 0
			if want == api.OK {
				number = m.last
			}
			wantAdd(t, l, y, number, want)
		case k < 90:
			var y []api.Item
			view := m.of[n].View
			for i := range roll(30) {
				view = max(0, view+roll(3)-max(0, roll(40)-38))
				y = append(y, item(view, step+i))
			}
			wantPut(t, l, n, y, m.put(n, y))
		case k < 95:
			n = max(n, m.last-20)
			wantCut(t, l, n, m.put(n, nil))
		default:
			n = min(n, m.base+20)
			wantTrim(t, l, n, m.trim(n))
		}
		var want []api.Item
		for i := m.base + 1; i <= m.last; i++ {
			want = append(want, m.of[i])
		}
		if step%50 == 0 {
			wantLog(t, l, m.base, want)
		}
		wantBehind(t, l, m.base, MaxItems, want, api.OK)
		if t.Failed() {
			t.Fatalf("step %d", step)
		}
	}
}
