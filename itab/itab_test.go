package itab

import (
	"math"
	"reflect"
	"slices"
	"strings"
	"testing"

	"sexton/api"
)

func root() api.Inode { return dir(1, 0, 0) }

func free(gen int) api.Inode { return api.Inode{Gen: gen} }

func dir(gen, stamp, next int, entries ...api.Entry) api.Inode {
	return api.Inode{Gen: gen, Attr: api.Attr{Kind: api.KindDir, Links: 1, Stamp: stamp}, Entries: entries, Next: next}
}

func file(gen, links, size int, runs ...api.Run) api.Inode {
	return api.Inode{Gen: gen, Attr: api.Attr{Kind: api.KindFile, Links: links, Size: size}, Runs: runs}
}

func at(no, gen int) api.Handle { return api.Handle{No: no, Gen: gen} }

// table is a root with more behind it.
func table(more ...api.Inode) []api.Inode { return append([]api.Inode{root()}, more...) }

// files are a root and n files.
func files(n int) []api.Inode {
	l := table()
	for range n {
		l = append(l, file(1, 1, 0))
	}
	return l
}

// changed is x, changed by f.
func changed(x api.Inode, f func(*api.Inode)) api.Inode {
	f(&x)
	return x
}

// plain is a table in which lists of nothing are nil, so that two of them may be held against each other.
func plain(l []api.Inode) []api.Inode {
	var out []api.Inode
	for _, x := range l {
		x.Runs = append([]api.Run(nil), x.Runs...)
		x.Entries = append([]api.Entry(nil), x.Entries...)
		out = append(out, x)
	}
	return out
}

func same(a, b []api.Inode) bool { return reflect.DeepEqual(plain(a), plain(b)) }

// spoil changes all that can be got at in a table, spare room too.
func spoil(l []api.Inode) {
	for i := range l {
		for j := range l[i].Runs[:cap(l[i].Runs)] {
			l[i].Runs[:cap(l[i].Runs)][j] = api.Run{At: -7, Data: "spoilt"}
		}
		for j := range l[i].Entries[:cap(l[i].Entries)] {
			l[i].Entries[:cap(l[i].Entries)][j] = api.Entry{Name: "spoilt", Cookie: -7}
		}
	}
	for i := range l[:cap(l)] {
		l[:cap(l)][i] = api.Inode{Gen: -7}
	}
}

// rich is a table of each kind of inode, new each time, with spare room in each list.
func rich() []api.Inode {
	entries := make([]api.Entry, 0, 9)
	entries = append(entries, api.Entry{Name: "a", Cookie: 2, To: at(1, 3)}, api.Entry{Name: "d", Cookie: 5, To: at(3, 1)})
	runs := make([]api.Run, 0, 9)
	runs = append(runs, api.Run{At: 1, Data: "ab"}, api.Run{At: 9, Data: "cde"})
	l := make([]api.Inode, 0, 9)
	return append(l, dir(1, 4, 5, entries...), file(3, 2, 12, runs...), free(7), dir(1, 9, 0), file(2, 0, 20, api.Run{At: 0, Data: "z"}))
}

// gens are generations, and whether an inode may have them.
var gens = []struct {
	gen int
	ok  bool
}{{math.MinInt, false}, {-1, false}, {0, false}, {1, true}, {2, true}, {api.MaxBig - 1, true}, {api.MaxBig, true}, {api.MaxBig + 1, false}, {math.MaxInt, false}}

// rightTables are right tables, those at the edges among them.
func rightTables() [][]api.Inode {
	l := [][]api.Inode{
		table(), New(), rich(), files(1), files(api.MaxInodes - 1),
		table(free(1)), table(free(api.MaxBig), file(1, 0, 0)),
		{dir(api.MaxBig, api.MaxBig, 0)},
		table(changed(free(1), func(x *api.Inode) { x.Runs, x.Entries = []api.Run{}, []api.Entry{} })),
		table(file(1, api.MaxLinks, api.MaxSize)),
		table(file(1, 1, 3, api.Run{At: 1, Data: "ab"})),
		table(file(1, 1, 4, api.Run{At: 1, Data: "ab"})),
		table(file(1, 1, api.MaxSize, api.Run{At: api.MaxSize - 1, Data: "a"})),
		// What a folder's entries and its next cookie are is not this layer's matter.
		table(dir(1, 0, -1)), table(dir(1, 0, api.MaxBig+1, api.Entry{}, api.Entry{})),
		table(changed(root(), func(x *api.Inode) { x.Attr.Size = 7 })),
	}
	for _, g := range gens {
		if g.ok {
			l = append(l, []api.Inode{dir(g.gen, 0, 0)}, table(free(g.gen)), table(file(g.gen, 1, 0)))
		}
	}
	return l
}

// wrongInodes are inodes that may stand in no table, each for one reason.
func wrongInodes() []api.Inode {
	run, entry := []api.Run{{At: 0, Data: "a"}}, []api.Entry{{Name: "a", Cookie: 1, To: at(0, 1)}}
	l := []api.Inode{
		{},
		changed(free(1), func(x *api.Inode) { x.Runs = run }),
		changed(free(1), func(x *api.Inode) { x.Entries = entry }),
		changed(free(1), func(x *api.Inode) { x.Next = 1 }),
		changed(free(1), func(x *api.Inode) { x.Next = -1 }),
		changed(free(1), func(x *api.Inode) { x.Attr.Links = 1 }),
		changed(free(1), func(x *api.Inode) { x.Attr.Size = 1 }),
		changed(free(1), func(x *api.Inode) { x.Attr.Stamp = 1 }),
		changed(file(1, 1, 9), func(x *api.Inode) { x.Entries = entry }),
		changed(file(1, 1, 9), func(x *api.Inode) { x.Next = 1 }),
		changed(file(1, 1, 9), func(x *api.Inode) { x.Next = -1 }),
		changed(file(1, 1, 9), func(x *api.Inode) { x.Attr.Kind = 3 }),
		changed(file(1, 1, 9), func(x *api.Inode) { x.Attr.Kind = -1 }),
		file(1, -1, 0), file(1, api.MaxLinks+1, 0), file(1, 1, -1), file(1, 1, api.MaxSize+1),
		file(1, 1, 2, api.Run{At: 1, Data: "ab"}),
		file(1, 1, 0, api.Run{At: 0, Data: "a"}),
		file(1, 1, api.MaxSize, api.Run{At: api.MaxSize, Data: "a"}),
		file(1, 1, 9, api.Run{At: 1}),
		file(1, 1, 9, api.Run{At: -1, Data: "a"}),
		file(1, 1, 9, api.Run{At: 3, Data: "a"}, api.Run{At: 1, Data: "a"}),
		file(1, 1, 9, api.Run{At: 3, Data: "a"}, api.Run{At: 4, Data: "a"}),
		changed(dir(1, 0, 0), func(x *api.Inode) { x.Runs = run }),
		changed(dir(1, 0, 0), func(x *api.Inode) { x.Attr.Size, x.Runs = 9, run }),
		changed(dir(1, 0, 0), func(x *api.Inode) { x.Attr.Links = 0 }),
		changed(dir(1, 0, 0), func(x *api.Inode) { x.Attr.Links = 2 }),
		dir(1, -1, 0), dir(1, api.MaxBig+1, 0),
	}
	for _, g := range gens {
		if !g.ok {
			l = append(l, free(g.gen), file(g.gen, 1, 0), dir(g.gen, 0, 0))
		}
	}
	return l
}

// wrongTables are tables that are not right, each for one reason.
func wrongTables() [][]api.Inode {
	l := [][]api.Inode{
		nil, {}, files(api.MaxInodes), files(api.MaxInodes + 1), files(200),
		{free(1)}, {file(1, 1, 0)}, {file(1, 1, 0), root()}, {free(1), root()},
	}
	for _, x := range wrongInodes() {
		l = append(l, []api.Inode{x}, table(x), append(files(5), x), append(table(x), file(1, 1, 0)))
	}
	return l
}

func wantFind(t *testing.T, l []api.Inode, h api.Handle, want api.Inode, wantE api.Errno) {
	t.Helper()
	x, e := Find(l, h)
	if !same([]api.Inode{x}, []api.Inode{want}) || e != wantE {
		t.Errorf("Find(%v, %v): %v, %v; want %v, %v", l, h, x, e, want, wantE)
	}
}

func wantMake(t *testing.T, l []api.Inode, kind, stamp int, want []api.Inode, wantH api.Handle, wantE api.Errno) []api.Inode {
	t.Helper()
	m, h, e := Make(l, kind, stamp)
	if !same(m, want) || h != wantH || e != wantE {
		t.Errorf("Make(%v, %d, %d): %v, %v, %v; want %v, %v, %v", l, kind, stamp, m, h, e, want, wantH, wantE)
	}
	return m
}

func wantPut(t *testing.T, l []api.Inode, h api.Handle, x api.Inode, want []api.Inode, wantE api.Errno) {
	t.Helper()
	if m, e := Put(l, h, x); !same(m, want) || e != wantE {
		t.Errorf("Put(%v, %v, %v): %v, %v; want %v, %v", l, h, x, m, e, want, wantE)
	}
}

func wantDrop(t *testing.T, l []api.Inode, h api.Handle, want []api.Inode, wantE api.Errno) []api.Inode {
	t.Helper()
	m, e := Drop(l, h)
	if !same(m, want) || e != wantE {
		t.Errorf("Drop(%v, %v): %v, %v; want %v, %v", l, h, m, e, want, wantE)
	}
	return m
}

// staleHandles are handles that name nothing in rich.
func staleHandles() []api.Handle {
	return []api.Handle{
		{}, at(-1, 1), at(math.MinInt, 1), at(5, 1), at(5, 0), at(6, 1), at(api.MaxInodes, 1), at(math.MaxInt, 1),
		at(0, 0), at(0, 2), at(0, -1), at(0, math.MaxInt),
		at(1, 2), at(1, 4), at(1, 1), at(2, 7), at(2, 6), at(2, 8), at(3, 0), at(3, 2), at(4, 1), at(4, 3), at(4, -2),
	}
}

// 9.1

func TestNew(t *testing.T) {
	want := []api.Inode{{Gen: 1, Attr: api.Attr{Kind: api.KindDir, Links: 1}}}
	l := New()
	if !same(l, want) {
		t.Errorf("New: %v", l)
	}
	spoil(l)
	if l := New(); !same(l, want) || Check(l) != api.OK {
		t.Errorf("New again: %v", l)
	}
}

func TestCheck(t *testing.T) {
	for _, l := range rightTables() {
		if e := Check(l); e != api.OK {
			t.Errorf("Check(%v): %v", l, e)
		}
	}
	for _, l := range wrongTables() {
		if e := Check(l); e != api.ErrForm {
			t.Errorf("Check(%v): %v", l, e)
		}
	}
}

func TestBytes(t *testing.T) {
	odd := []api.Run{{At: -5, Data: "abc"}, {}, {At: -5, Data: "de"}}
	for _, c := range []struct {
		l    []api.Inode
		want int
	}{
		{nil, 0}, {New(), 0}, {rich(), 6}, {files(3), 0},
		{table(file(1, 1, 9, api.Run{At: 0, Data: "abc"}), file(1, 1, 9, api.Run{At: 5, Data: "d"})), 4},
		// Of any list, right or not.
		{[]api.Inode{{Runs: odd}}, 5},
		{table(changed(free(1), func(x *api.Inode) { x.Runs = odd }), changed(root(), func(x *api.Inode) { x.Runs = odd })), 10},
		{append(files(30), file(0, -1, -1, api.Run{Data: strings.Repeat("x", 9000)})), 9000},
	} {
		if n := Bytes(c.l); n != c.want {
			t.Errorf("Bytes(%v): %d; want %d", c.l, n, c.want)
		}
	}
}

func TestUsed(t *testing.T) {
	long := append(files(29), free(1), file(-4, 1, 0))
	var wantLong []api.Handle
	for i := range 30 {
		wantLong = append(wantLong, at(i, 1))
	}
	wantLong = append(wantLong, at(31, -4))
	for _, c := range []struct {
		l    []api.Inode
		want []api.Handle
	}{
		{nil, nil}, {New(), []api.Handle{at(0, 1)}}, {[]api.Inode{free(1), {}, free(9)}, nil},
		{rich(), []api.Handle{at(0, 1), at(1, 3), at(3, 1), at(4, 2)}},
		// Of any list, right or not.
		{[]api.Inode{{Attr: api.Attr{Kind: 3}}, {Gen: -1, Attr: api.Attr{Kind: -1}}, {Gen: 4, Attr: api.Attr{Links: 1}}}, []api.Handle{at(0, 0), at(1, -1)}},
		{long, wantLong},
	} {
		if got := Used(c.l); !slices.Equal(got, c.want) {
			t.Errorf("Used(%v): %v; want %v", c.l, got, c.want)
		}
	}
}

// 9.2

func TestFind(t *testing.T) {
	l := rich()
	for _, h := range Used(l) {
		wantFind(t, l, h, l[h.No], api.OK)
	}
	for _, h := range staleHandles() {
		wantFind(t, l, h, api.Inode{}, api.Stale)
	}
	last := files(api.MaxInodes - 1)
	wantFind(t, last, at(api.MaxInodes-1, 1), file(1, 1, 0), api.OK)
	wantFind(t, last, at(api.MaxInodes, 1), api.Inode{}, api.Stale)
	wantFind(t, table(file(api.MaxBig, 1, 0)), at(1, api.MaxBig), file(api.MaxBig, 1, 0), api.OK)
	wantFind(t, table(file(api.MaxBig, 1, 0)), at(1, api.MaxBig-1), api.Inode{}, api.Stale)
}

func TestMake(t *testing.T) {
	for _, kind := range []int{api.KindFile, api.KindDir} {
		for _, stamp := range []int{0, 1, 3, api.MaxBig - 1, api.MaxBig} {
			x := api.Inode{Attr: api.Attr{Kind: kind, Links: 1, Stamp: stamp}}
			of := func(gen int) api.Inode { return changed(x, func(x *api.Inode) { x.Gen = gen }) }
			wantMake(t, New(), kind, stamp, table(of(1)), at(1, 1), api.OK)
			l := rich()
			want := slices.Clone(l)
			want[2] = of(8)
			wantMake(t, l, kind, stamp, want, at(2, 8), api.OK)
			// The least of several; those of the last generation are passed by.
			wantMake(t, table(file(1, 1, 0), free(5), free(2)), kind, stamp, table(file(1, 1, 0), of(6), free(2)), at(2, 6), api.OK)
			wantMake(t, table(free(api.MaxBig), free(2)), kind, stamp, table(free(api.MaxBig), of(3)), at(2, 3), api.OK)
			wantMake(t, table(free(api.MaxBig)), kind, stamp, table(free(api.MaxBig), of(1)), at(2, 1), api.OK)
			wantMake(t, table(free(api.MaxBig-1)), kind, stamp, table(of(api.MaxBig)), at(1, api.MaxBig), api.OK)
		}
	}
}

func TestMakeArguments(t *testing.T) {
	for _, l := range [][]api.Inode{New(), rich(), files(api.MaxInodes - 1)} {
		for _, kind := range []int{math.MinInt, -1, api.KindFree, 3, 4, math.MaxInt} {
			wantMake(t, l, kind, 0, nil, api.Handle{}, api.ErrArg)
		}
		for _, stamp := range []int{math.MinInt, -1, api.MaxBig + 1, math.MaxInt} {
			wantMake(t, l, api.KindFile, stamp, nil, api.Handle{}, api.ErrArg)
			wantMake(t, l, api.KindDir, stamp, nil, api.Handle{}, api.ErrArg)
		}
	}
}

func TestMakeFull(t *testing.T) {
	full := files(api.MaxInodes - 1)
	l := files(api.MaxInodes - 2)
	wantMake(t, l, api.KindFile, 0, full, at(api.MaxInodes-1, 1), api.OK)
	wantMake(t, full, api.KindFile, 0, nil, api.Handle{}, api.NoRoom)
	wantMake(t, full, api.KindDir, 5, nil, api.Handle{}, api.NoRoom)
	for _, no := range []int{1, 9, api.MaxInodes - 1} {
		l := slices.Clone(full)
		l[no] = free(api.MaxBig)
		wantMake(t, l, api.KindFile, 0, nil, api.Handle{}, api.NoRoom)
		l[no] = free(api.MaxBig - 1)
		want := slices.Clone(full)
		want[no] = file(api.MaxBig, 1, 0)
		wantMake(t, l, api.KindFile, 0, want, at(no, api.MaxBig), api.OK)
	}
}

// 9.3

func TestPut(t *testing.T) {
	l := rich()
	for _, c := range []struct {
		h api.Handle
		x api.Inode
	}{
		{at(0, 1), root()},
		{at(0, 1), dir(1, api.MaxBig, -3, api.Entry{})},
		{at(1, 3), file(3, 1, 2, api.Run{At: 0, Data: "ab"})},
		{at(1, 3), dir(3, 2, 1)},
		{at(3, 1), file(1, 0, 0)},
		{at(4, 2), file(2, api.MaxLinks, api.MaxSize, api.Run{At: api.MaxSize - 2, Data: "ab"})},
	} {
		want := slices.Clone(l)
		want[c.h.No] = c.x
		wantPut(t, l, c.h, c.x, want, api.OK)
	}
}

func TestPutWrong(t *testing.T) {
	l := rich()
	for _, h := range staleHandles() {
		wantPut(t, l, h, file(h.Gen, 1, 0), nil, api.Stale)
	}
	for _, gen := range []int{math.MinInt, -3, 0, 1, 2, 4, api.MaxBig, math.MaxInt} {
		wantPut(t, l, at(1, 3), file(gen, 1, 0), nil, api.ErrArg)
	}
	wantPut(t, l, at(1, 3), free(3), nil, api.ErrArg)
	wantPut(t, l, at(1, 3), changed(free(3), func(x *api.Inode) { x.Next = 1 }), nil, api.ErrArg)
	wantPut(t, l, at(0, 1), free(1), nil, api.ErrArg)
	wantPut(t, l, at(0, 1), file(1, 1, 0), nil, api.ErrForm)
	for _, x := range wrongInodes() {
		if x.Gen == 1 && x.Attr.Kind != api.KindFree {
			wantPut(t, l, at(3, 1), x, nil, api.ErrForm)
			wantPut(t, l, at(0, 1), x, nil, api.ErrForm)
		}
	}
}

func TestDrop(t *testing.T) {
	l := rich()
	for _, h := range Used(l) {
		if h.No == 0 {
			continue
		}
		want := slices.Clone(l)
		want[h.No] = free(h.Gen)
		m := wantDrop(t, l, h, want, api.OK)
		wantDrop(t, m, h, nil, api.Stale)
	}
	wantDrop(t, l, at(0, 1), nil, api.ErrArg)
	for _, h := range staleHandles() {
		wantDrop(t, l, h, nil, api.Stale)
	}
	wantDrop(t, table(file(api.MaxBig, 1, 0)), at(1, api.MaxBig), table(free(api.MaxBig)), api.OK)
}

// TestOrder: of several faults the one that the chapter names first is told.
func TestOrder(t *testing.T) {
	for _, l := range wrongTables() {
		for _, h := range []api.Handle{at(0, 1), at(1, 1), at(-1, 0), at(99, 1)} {
			wantFind(t, l, h, api.Inode{}, api.ErrForm)
			wantPut(t, l, h, file(1, 1, 0), nil, api.ErrForm)
			wantPut(t, l, h, free(5), nil, api.ErrForm)
			wantDrop(t, l, h, nil, api.ErrForm)
		}
		wantMake(t, l, api.KindFile, 0, nil, api.Handle{}, api.ErrForm)
		wantMake(t, l, 3, -1, nil, api.Handle{}, api.ErrForm)
	}
	l := rich()
	wantPut(t, l, at(1, 4), file(3, 1, 0), nil, api.Stale)
	wantPut(t, l, at(1, 4), free(3), nil, api.Stale)
	wantPut(t, l, at(1, 4), file(4, -1, 0), nil, api.Stale)
	wantPut(t, l, at(1, 3), file(4, -1, 0), nil, api.ErrArg)
	wantPut(t, l, at(0, 1), file(2, 1, 0), nil, api.ErrArg)
	wantDrop(t, l, at(0, 2), nil, api.Stale)
	wantMake(t, files(api.MaxInodes-1), 3, 0, nil, api.Handle{}, api.ErrArg)
	wantMake(t, files(api.MaxInodes-1), api.KindFile, -1, nil, api.Handle{}, api.ErrArg)
}

func TestExample(t *testing.T) {
	l := wantMake(t, New(), api.KindFile, 3, table(changed(file(1, 1, 0), func(x *api.Inode) { x.Attr.Stamp = 3 })), at(1, 1), api.OK)
	l = wantDrop(t, l, at(1, 1), table(free(1)), api.OK)
	wantFind(t, l, at(1, 1), api.Inode{}, api.Stale)
	wantMake(t, l, api.KindFile, 0, table(file(2, 1, 0)), at(1, 2), api.OK)
}

// TestMemory: what is handed in is neither changed nor kept, and what is told is new.
func TestMemory(t *testing.T) {
	x := file(3, 1, 30, rich()[1].Runs...)
	d := dir(1, 3, 7, rich()[0].Entries...)
	calls := []func(l []api.Inode) []api.Inode{
		func(l []api.Inode) []api.Inode { m, _, _ := Make(l, api.KindFile, 3); return m },
		func(l []api.Inode) []api.Inode { m, _, _ := Make(l[:2], api.KindDir, 3); return m },
		func(l []api.Inode) []api.Inode { m, _ := Put(l, at(1, 3), x); return m },
		func(l []api.Inode) []api.Inode { m, _ := Put(l, at(0, 1), d); return m },
		func(l []api.Inode) []api.Inode { m, _ := Drop(l, at(3, 1)); return m },
		func(l []api.Inode) []api.Inode { y, _ := Find(l, at(1, 3)); return []api.Inode{y} },
		func(l []api.Inode) []api.Inode { y, _ := Find(l, at(0, 1)); return []api.Inode{y} },
	}
	for i, call := range calls {
		l := rich()
		first := call(l)
		if len(first) == 0 || !same(l, rich()) || !same(l[:cap(l)], rich()[:cap(l)]) {
			t.Errorf("call %d changes what it is handed: %v", i, l)
		}
		kept := plain(first)
		spoil(first)
		if !same(l, rich()) || !same(call(l), kept) {
			t.Errorf("call %d: what is told is not new", i)
		}
		again := call(l)
		spoil(l)
		if !same(again, kept) {
			t.Errorf("call %d keeps what it is handed: %v", i, again)
		}
	}
	m, _ := Put(rich(), at(1, 3), x)
	kept := plain(m)
	spoil([]api.Inode{x})
	if !same(m, kept) {
		t.Error("Put keeps the inode that it is handed")
	}
	h := Used(rich())
	h[0] = at(9, 9)
	if Used(rich())[0] != at(0, 1) {
		t.Error("Used: what is told is not new")
	}
}

// TestTwins: two inodes whose lists are one in what is handed in are apart in what is told.
func TestTwins(t *testing.T) {
	runs := []api.Run{{At: 0, Data: "ab"}}
	l := table(file(1, 1, 2, runs...), file(1, 1, 2, runs...))
	m, _, _ := Make(l, api.KindFile, 0)
	m[1].Runs[0].Data = "xy"
	if m[2].Runs[0].Data != "ab" || runs[0].Data != "ab" {
		t.Error("two lists of one answer share memory")
	}
}

// 9.4

// TestStaleForEver: a number that is dropped and made again and again has a new generation each time.
func TestStaleForEver(t *testing.T) {
	l := New()
	var gone []api.Handle
	for i := range 100 {
		m, h, e := Make(l, api.KindFile+i%2, i)
		if e != api.OK || h != at(1, i+1) {
			t.Fatalf("Make: %v, %v", h, e)
		}
		if l, e = Drop(m, h); e != api.OK {
			t.Fatalf("Drop: %v", e)
		}
		gone = append(gone, h)
		for _, old := range gone {
			wantFind(t, l, old, api.Inode{}, api.Stale)
		}
		for _, old := range gone[:i] {
			wantFind(t, m, old, api.Inode{}, api.Stale)
			wantPut(t, m, old, file(old.Gen, 1, 0), nil, api.Stale)
			wantDrop(t, m, old, nil, api.Stale)
		}
	}
}

// model is what a table should hold, by handles.
type model struct {
	held map[api.Handle]api.Inode
	gone []api.Handle
	all  []api.Handle
}

// pick is a handle of late, whether or not it is gone; the root's, if none was made.
func (m *model) pick(x int) api.Handle {
	if len(m.all) == 0 {
		return at(0, 1)
	}
	recent := m.all[max(0, len(m.all)-40):]
	return recent[x%len(recent)]
}

// agree holds a table against the model: what is held is found, what is gone is stale.
func (m *model) agree(t *testing.T, l []api.Inode) {
	t.Helper()
	if Check(l) != api.OK || len(Used(l)) != len(m.held)+1 {
		t.Fatalf("table: %v", l)
	}
	bytes := 0
	for h, want := range m.held {
		wantFind(t, l, h, want, api.OK)
		for _, r := range want.Runs {
			bytes += len(r.Data)
		}
	}
	for _, h := range m.gone {
		wantFind(t, l, h, api.Inode{}, api.Stale)
	}
	if n := Bytes(l); n != bytes {
		t.Fatalf("Bytes: %d; want %d", n, bytes)
	}
}

// step does one thing to a table and its model.
func (m *model) step(t *testing.T, l []api.Inode, x int) []api.Inode {
	h := m.pick(x / 7)
	old, there := m.held[h]
	switch x % 5 {
	case 0, 1:
		next, h, e := Make(l, api.KindFile+x/5%2, x%1000)
		if e == api.NoRoom && len(m.held) == api.MaxInodes-1 {
			return l
		}
		if e != api.OK || slices.Contains(m.all, h) {
			t.Fatalf("Make: %v, %v", h, e)
		}
		m.held[h] = api.Inode{Gen: h.Gen, Attr: api.Attr{Kind: api.KindFile + x/5%2, Links: 1, Stamp: x % 1000}}
		m.all = append(m.all, h)
		return next
	case 2, 3:
		y := file(h.Gen, 1, x%50+2, api.Run{At: x % 50, Data: "ab"})
		next, e := Put(l, h, y)
		if there != (e == api.OK) {
			t.Fatalf("Put(%v), which is %v: %v", h, old, e)
		}
		if there {
			m.held[h] = y
			return next
		}
	case 4:
		next, e := Drop(l, h)
		if there != (e == api.OK) {
			t.Fatalf("Drop(%v), which is %v: %v", h, old, e)
		}
		if there {
			delete(m.held, h)
			m.gone = append(m.gone, h)
			return next
		}
	}
	return l
}

func TestModel(t *testing.T) {
	m := &model{held: map[api.Handle]api.Inode{}}
	l := New()
	x := 1
	for i := range 3000 {
		x = x * 48271 % (1<<31 - 1)
		l = m.step(t, l, x>>4)
		if i%10 == 0 {
			m.agree(t, l)
		}
	}
	if len(m.gone) < 100 {
		t.Errorf("only %d were dropped", len(m.gone))
	}
}

// TestTotal: every call ends, none panics (P1).
func TestTotal(t *testing.T) {
	odd := []int{math.MinInt, -1, 0, 1, 2, 23, 24, api.MaxBig, math.MaxInt}
	tables := append(rightTables(), wrongTables()...)
	for _, l := range tables {
		right := Check(l) == api.OK
		for _, a := range odd {
			for _, b := range odd {
				x, e := Find(l, at(a, b))
				m, f := Put(l, at(a, b), x)
				n, g := Drop(l, at(a, b))
				o, _, k := Make(l, a, b)
				for i, e := range []api.Errno{e, f, g, k} {
					if right == (e == api.ErrForm) {
						t.Fatalf("call %d of %v: %v", i, l, e)
					}
				}
				if f == api.OK && !same(m, l) || g == api.OK && Check(n) != api.OK || k == api.OK && Check(o) != api.OK {
					t.Fatalf("of %v: %v, %v, %v", l, m, n, o)
				}
			}
		}
	}
}
