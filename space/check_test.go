package space

import (
	"math"
	"slices"
	"strconv"
	"strings"
	"testing"

	"sexton/api"
	"sexton/itab"
)

// spaces are tables that are spaces, those at the edges among them.
func spaces() [][]api.Inode {
	f := at(1, 1)
	return [][]api.Inode{
		itab.New(), some(), full(), chain("x"), chain(strings.Repeat("x", api.MaxName)),
		links(0), links(1), links(2), links(api.MaxLinks - 1), links(api.MaxLinks),
		next(0, api.MaxBig), next(6, 0), next(6, api.MaxBig),
		table(dir(api.MaxBig, api.MaxBig, 0)), table(dir(5, 0, 9)),
		table(dir(1, 0, 0), free(1), free(api.MaxBig)),
		table(dir(1, 0, 1, entry("a", 1, at(1, api.MaxBig))), file(api.MaxBig, 1, api.MaxBig)),
		table(dir(1, 0, 1, entry("a", 1, at(2, 1))), free(4), dir(1, 0, 0)),
		// A file with names in several folders, that of the greatest number among them.
		table(dir(1, 0, 2, entry("a", 1, f), entry("d", 2, at(2, 1))), file(1, 3, 0), dir(1, 0, 3, entry("a", 1, f), entry("b", 3, f))),
		// A folder whose number is less than that of the one that it is in.
		table(dir(1, 0, 1, entry("d", 1, at(2, 1))), dir(1, 0, 0), dir(1, 0, 1, entry("d", 1, f))),
	}
}

// wrongTables are tables that are not right, each for one reason.
func wrongTables() [][]api.Inode {
	l := [][]api.Inode{
		nil, {}, append(full(), free(1)), append(full(), file(1, 0, 0)), table(free(1)), table(file(1, 0, 0)), table(file(1, 0, 0), dir(1, 0, 0)),
	}
	for _, gen := range []int{math.MinInt, -1, 0, api.MaxBig + 1, math.MaxInt} {
		l = append(l, table(dir(gen, 0, 0)), table(dir(1, 0, 0), free(gen)), table(dir(1, 0, 0), file(gen, 0, 0)))
	}
	for no, f := range map[int]func(*api.Inode){
		0: func(x *api.Inode) { x.Attr.Links = 0 },
		1: func(x *api.Inode) { x.Attr.Links = 2 },
		2: func(x *api.Inode) { x.Entries = []api.Entry{entry("q", 1, orphan)} },
		3: func(x *api.Inode) { x.Runs = []api.Run{{At: 0, Data: "a"}} },
		4: func(x *api.Inode) { x.Next = 1 },
		5: func(x *api.Inode) { x.Attr.Size = 0 },
		6: func(x *api.Inode) { x.Attr.Stamp = -1 },
		7: func(x *api.Inode) { x.Attr.Stamp = api.MaxBig + 1 },
	} {
		l = append(l, changed(some(), no, f))
	}
	return append(l, table(dir(1, 0, 0), file(1, -1, 0)), links(api.MaxLinks+1), changed(some(), 2, func(x *api.Inode) { x.Attr.Kind = 3 }))
}

// wrongFolders are right tables with a folder whose entries or Next or Size are not right.
func wrongFolders() [][]api.Inode {
	var l [][]api.Inode
	for _, n := range []int{math.MinInt, -1, 4, api.MaxBig + 1, math.MaxInt} {
		l = append(l, next(0, n))
	}
	l = append(l, next(6, -1), next(1, 6))
	f := at(1, 1)
	for _, name := range []string{"", ".", "..", "/", "a/b", "a\x00", strings.Repeat("x", api.MaxName+1)} {
		l = append(l, table(dir(1, 0, 9, entry(name, 1, f)), file(1, 1, 0)), table(dir(1, 0, 9, entry("d", 1, at(2, 1))), file(1, 1, 0), dir(1, 0, 9, entry(name, 1, f))))
	}
	for _, c := range [][2]int{{0, 1}, {-1, 1}, {1, 1}, {2, 1}, {9, 10}, {10, 11}} {
		l = append(l, table(dir(1, 0, 9, entry("a", c[0], f), entry("b", c[1], f)), file(1, 2, 0)))
	}
	l = append(l, table(dir(1, 0, 9, entry("a", 1, f), entry("a", 2, f)), file(1, 2, 0)))
	for _, by := range []int{-1, 1} {
		for _, no := range []int{0, 1, 3} {
			l = append(l, changed(some(), no, func(x *api.Inode) { x.Attr.Size += by }))
		}
	}
	return append(l, changed(some(), 6, func(x *api.Inode) { x.Attr.Size = 1 }), changed(itab.New(), 0, func(x *api.Inode) { x.Attr.Size = 1 }))
}

// wrongTos are right tables with right folders, and an entry that names nothing.
func wrongTos() [][]api.Inode {
	var l [][]api.Inode
	for _, to := range []api.Handle{
		{}, at(-1, 1), at(math.MinInt, 1), at(api.MaxInodes, 1), at(math.MaxInt, 1), at(1, 0), at(1, -1), at(1, api.MaxBig+1),
		at(1, 4), at(1, 6), at(2, 3), at(2, 2), at(2, 4), at(3, 1), at(3, 5), at(api.MaxInodes-1, 1),
	} {
		// 1 is a file of generation 5, 2 is free, 3 is not there; none of them needs a name.
		l = append(l, table(dir(1, 0, 9, entry("a", 1, to)), file(5, 0, 0), free(3)))
	}
	return append(l, table(dir(1, 0, 9, entry("a", 1, at(0, 2)))), table(dir(5, 0, 9, entry("a", 1, at(0, 1)))))
}

// wrongNames are right tables with right folders, in which each entry names something, but not as often as it must.
func wrongNames() [][]api.Inode {
	d, e, f := at(1, 1), at(2, 1), at(1, 1)
	more := changed(some(), 0, func(x *api.Inode) {
		x.Entries = append(x.Entries, entry("q", 6, fileB))
		x.Attr.Size++
	})
	return [][]api.Inode{
		// The root is named, by itself and by one below it.
		table(dir(1, 0, 1, entry("a", 1, at(0, 1)))),
		table(dir(1, 0, 1, entry("a", 1, d)), dir(1, 0, 1, entry("up", 1, at(0, 1)))),
		table(dir(1, 0, 0), dir(1, 0, 1, entry("up", 1, at(0, 1)))),
		// A folder is named by none, by two of one folder, by two of several, by itself and another one.
		table(dir(1, 0, 0), dir(1, 0, 0)),
		table(dir(1, 0, 2, entry("a", 1, d), entry("b", 2, d)), dir(1, 0, 0)),
		table(dir(1, 0, 2, entry("a", 1, d), entry("b", 2, e)), dir(1, 0, 1, entry("c", 1, e)), dir(1, 0, 0)),
		table(dir(1, 0, 2, entry("a", 1, d)), dir(1, 0, 1, entry("c", 1, d))),
		table(dir(1, 0, 2, entry("a", 1, d)), dir(1, 0, 1, entry("c", 1, e)), dir(1, 0, 1, entry("c", 1, d))),
		// A file is named once less than it has links, and once more.
		changed(some(), 2, func(x *api.Inode) { x.Attr.Links = 3 }),
		changed(some(), 2, func(x *api.Inode) { x.Attr.Links = 1 }),
		more,
		table(dir(1, 0, 0), file(1, 1, 0)),
		table(dir(1, 0, 1, entry("a", 1, f)), file(1, 0, 0)),
		table(dir(1, 0, 1, entry("a", 1, f)), file(1, 2, 0)),
		changed(links(api.MaxLinks), 1, func(x *api.Inode) { x.Attr.Links-- }),
		changed(links(api.MaxLinks-1), 1, func(x *api.Inode) { x.Attr.Links++ }),
		// One has a name too many, another one too few.
		table(dir(1, 0, 2, entry("a", 1, f), entry("b", 2, f)), file(1, 1, 0), file(1, 1, 0)),
	}
}

// unreached are tables in which each is named as often as it must be, with folders that are not come to from the root.
func unreached() [][]api.Inode {
	return [][]api.Inode{
		table(dir(1, 0, 0), dir(1, 0, 1, entry("a", 1, at(1, 1)))),
		table(dir(1, 0, 0), dir(1, 0, 1, entry("a", 1, at(2, 1))), dir(1, 0, 1, entry("b", 1, at(1, 1)))),
		table(dir(1, 0, 0), dir(1, 0, 1, entry("a", 1, at(2, 1))), dir(1, 0, 1, entry("b", 1, at(3, 1))), dir(1, 0, 1, entry("c", 1, at(1, 1)))),
		// A file of theirs has another name, which is come to.
		table(dir(1, 0, 1, entry("f", 1, at(2, 1))), dir(1, 0, 2, entry("a", 1, at(1, 1)), entry("b", 2, at(2, 1))), file(1, 2, 0)),
		// What is below them is not come to either; another folder is.
		table(dir(1, 0, 1, entry("d", 1, at(3, 1))), dir(1, 0, 2, entry("a", 1, at(1, 1)), entry("b", 2, at(2, 1))), dir(1, 0, 0), dir(1, 0, 0)),
	}
}

// noSpaces are tables that are no space, each for one reason.
func noSpaces() [][]api.Inode {
	return slices.Concat(wrongTables(), wrongFolders(), wrongTos(), wrongNames(), unreached())
}

// 11.1

func TestCheck(t *testing.T) {
	for _, l := range spaces() {
		if e := Check(l); e != api.OK || !isSpace(l) {
			t.Errorf("Check(%v): %v", l, e)
		}
	}
	for _, l := range noSpaces() {
		if e := Check(l); e != api.ErrForm || isSpace(l) {
			t.Errorf("Check(%v): %v", l, e)
		}
	}
	// Those beyond the first kind are right tables: it is as spaces that they are wrong.
	for _, l := range slices.Concat(wrongFolders(), wrongTos(), wrongNames(), unreached()) {
		if e := itab.Check(l); e != api.OK {
			t.Errorf("itab.Check(%v): %v", l, e)
		}
	}
}

func wantPaths(t *testing.T, l []api.Inode, want []string) {
	t.Helper()
	if p := Paths(l); !slices.Equal(p, want) {
		t.Errorf("Paths(%v): %q; want %q", l, p, want)
	}
}

// rootOf is a root with a file of these names in it.
func rootOf(names ...string) []api.Inode {
	l := links(len(names))
	for i := range names {
		l[0].Entries[i].Name = names[i]
	}
	return l
}

func TestPaths(t *testing.T) {
	wantPaths(t, itab.New(), []string{"/"})
	wantPaths(t, some(), somePaths())
	wantPaths(t, links(0), []string{"/"})
	wantPaths(t, links(2), []string{"/", "/n0", "/n1"})
	wantPaths(t, table(dir(5, 0, 9)), []string{"/"})
	deep, want := strings.Repeat("x", api.MaxName), []string{"/"}
	for n := range api.MaxInodes - 1 {
		want = append(want, strings.Repeat("/"+deep, n+1))
	}
	wantPaths(t, chain(deep), want)
	for _, l := range noSpaces() {
		wantPaths(t, l, nil)
	}
	for _, l := range spaces() {
		wantPaths(t, l, pathsOf(l))
	}
}

// TestPathsSorted: by bytes, not by letters, and as whole paths, not name by name.
func TestPathsSorted(t *testing.T) {
	wantPaths(t, rootOf("b", "a", "B", "_", "ä", "z", "é", "10", "9"), []string{"/", "/10", "/9", "/B", "/_", "/a", "/b", "/z", "/ä", "/é"})
	wantPaths(t, rootOf("\xff", "\U00010000", "\ufffd", "\x01", "\x80"), []string{"/", "/\x01", "/\x80", "/\ufffd", "/\U00010000", "/\xff"})
	wantPaths(t, rootOf("ab", "a", "abc", "a\x01"), []string{"/", "/a", "/a\x01", "/ab", "/abc"})
	l := table(dir(1, 0, 9, entry("a0", 1, at(1, 1)), entry("a", 2, at(2, 1)), entry("a-", 3, at(1, 1)), entry("a!", 4, at(3, 1))),
		file(1, 4, 0), dir(1, 0, 1, entry("z", 1, at(1, 1))), dir(1, 0, 1, entry("b", 1, at(1, 1))))
	wantPaths(t, l, []string{"/", "/a", "/a!", "/a!/b", "/a-", "/a/z", "/a0"})
}

// TestPathsMany: one path for each way.
func TestPathsMany(t *testing.T) {
	l, want := links(api.MaxLinks), []string{"/"}
	for i := range api.MaxLinks {
		want = append(want, "/n"+strconv.Itoa(i))
	}
	slices.Sort(want)
	wantPaths(t, l, want)
}
