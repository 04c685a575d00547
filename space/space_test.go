package space

import (
	"math"
	"strings"
	"testing"

	"sexton/api"
	"sexton/itab"
)

// The stamp that the calls of these tests have.
const now = 20

// has are the entries of a folder of some, and more.
func has(no int, more ...api.Entry) []api.Entry { return append(some()[no].Entries, more...) }

// with is a table like l with other inodes in the places of these numbers.
func with(l []api.Inode, m map[int]api.Inode) []api.Inode {
	l = plain(l)
	for no, x := range m {
		l[no] = x
	}
	return l
}

// stales are handles that name nothing in some.
func stales() []api.Handle {
	return []api.Handle{
		{}, at(-1, 1), at(math.MinInt, 1), at(8, 1), at(8, 0), at(api.MaxInodes, 1), at(math.MaxInt, 1),
		at(0, 0), at(0, 2), at(1, 0), at(1, 2), at(2, 2), at(2, 4), at(4, 7), at(4, 8), at(4, 6), at(5, 1), at(6, 1), at(6, 3), at(7, math.MinInt),
	}
}

func badNames() []string {
	return []string{"", ".", "..", "/", "a/b", "/a", "a/", "\x00", "a\x00", strings.Repeat("x", api.MaxName+1), strings.Repeat("ä", api.MaxName)}
}

// 11.2

func TestLook(t *testing.T) {
	for _, c := range []struct {
		dir  api.Handle
		name string
		want api.Handle
	}{{root, "a", dirA}, {root, "f", fileB}, {dirA, "b", fileB}, {dirA, "c", dirC}, {dirA, "g", fileG}, {dirC, "e", dirE}} {
		want(t, look(c.dir, c.name), some(), result{h: c.want})
	}
	for _, name := range []string{"b", "A", "a ", "aa", "e", strings.Repeat("x", api.MaxName)} {
		wrong(t, look(root, name), some(), api.NotThere)
	}
	for _, name := range badNames() {
		wrong(t, look(root, name), some(), api.BadName)
	}
	wrong(t, look(dirE, "a"), some(), api.NotThere)
	wrong(t, look(dirA, "a"), some(), api.NotThere)
	want(t, look(at(0, 5), "n0"), changed(links(1), 0, func(x *api.Inode) { x.Gen = 5 }), result{h: at(1, 1)})
}

func TestMake(t *testing.T) {
	for _, kind := range []int{api.KindFile, api.KindDir} {
		for _, stamp := range []int{someStamp, someStamp + 1, api.MaxBig} {
			in := func(x api.Inode, e api.Entry) api.Inode {
				return dir(x.Gen, stamp, e.Cookie, append(x.Entries, e)...)
			}
			l := some()
			want(t, mk(root, "n", kind, stamp), l, result{l: with(l, map[int]api.Inode{0: in(l[0], entry("n", 7, at(4, 8))), 4: made(8, kind, stamp)}), h: at(4, 8)})
			want(t, mk(dirA, "f", kind, stamp), l, result{l: with(l, map[int]api.Inode{1: in(l[1], entry("f", 10, at(4, 8))), 4: made(8, kind, stamp)}), h: at(4, 8)})
			want(t, mk(dirE, "a", kind, stamp), l, result{l: with(l, map[int]api.Inode{6: in(l[6], entry("a", 5, at(4, 8))), 4: made(8, kind, stamp)}), h: at(4, 8)})
		}
		for _, stamp := range []int{0, 1, api.MaxBig} {
			want(t, mk(root, "n", kind, stamp), itab.New(), result{l: table(dir(1, stamp, 1, entry("n", 1, at(1, 1))), made(1, kind, stamp)), h: at(1, 1)})
		}
	}
}

func TestMakeKind(t *testing.T) {
	for _, kind := range []int{math.MinInt, -1, api.KindFree, 3, math.MaxInt} {
		wrong(t, mk(root, "n", kind, now), some(), api.ErrArg)
		wrong(t, mk(at(9, 9), "/", kind, now), some(), api.ErrArg)
	}
}

func TestMakeRoom(t *testing.T) {
	wrong(t, mk(root, "n", api.KindFile, now), full(), api.NoRoom)
	wrong(t, mk(root, "n", api.KindDir, now), full(), api.NoRoom)
	wrong(t, mk(root, "n1", api.KindDir, now), full(), api.Taken)
	l := full()
	l[0].Entries = l[0].Entries[:api.MaxInodes-2]
	l[0].Attr.Size--
	for _, c := range []struct {
		last api.Inode
		want api.Errno
	}{{file(1, 0, 0), api.NoRoom}, {free(api.MaxBig), api.NoRoom}, {free(api.MaxBig - 1), api.OK}, {free(1), api.OK}} {
		l[api.MaxInodes-1] = c.last
		r := mk(root, "n", api.KindFile, now).run(l)
		if r.e != c.want || r.e == api.OK && r.h != at(api.MaxInodes-1, c.last.Gen+1) {
			t.Errorf("Make with %v last: %v, %v; want %v", c.last, r.h, r.e, c.want)
		}
	}
	for _, kind := range []int{api.KindFile, api.KindDir} {
		wrong(t, mk(root, "n", kind, now), next(0, api.MaxBig), api.NoRoom)
		wrong(t, mk(root, "a", kind, now), next(0, api.MaxBig), api.Taken)
		l := next(0, api.MaxBig-1)
		grown := dir(1, now, api.MaxBig, has(0, entry("n", api.MaxBig, at(4, 8)))...)
		want(t, mk(root, "n", kind, now), l, result{l: with(l, map[int]api.Inode{0: grown, 4: made(8, kind, now)}), h: at(4, 8)})
		if r := mk(dirA, "n", kind, now).run(next(0, api.MaxBig)); r.e != api.OK {
			t.Errorf("Make in a folder that has room: %v", r.e)
		}
	}
}

// 11.3

func TestLink(t *testing.T) {
	l := some()
	b := file(3, 3, now, l[2].Runs...)
	want(t, link(fileB, root, "n", now), l, result{l: with(l, map[int]api.Inode{0: dir(1, now, 7, has(0, entry("n", 7, fileB))...), 2: b})})
	want(t, link(fileB, dirE, "b", now), l, result{l: with(l, map[int]api.Inode{6: dir(2, now, 5, entry("b", 5, fileB)), 2: b})})
	want(t, link(fileG, dirA, "h", someStamp), l, result{l: with(l, map[int]api.Inode{1: dir(1, someStamp, 10, has(1, entry("h", 10, fileG))...), 7: file(1, 2, someStamp)})})
	// A file without a name gets one.
	want(t, link(orphan, dirC, "o", now), l, result{l: with(l, map[int]api.Inode{3: dir(1, now, 2, has(3, entry("o", 2, orphan))...), 5: file(2, 1, now, l[5].Runs...)})})
}

func TestLinkWrong(t *testing.T) {
	for _, h := range stales() {
		wrong(t, link(h, root, "n", now), some(), api.Stale)
	}
	for _, h := range []api.Handle{root, dirA, dirC, dirE} {
		wrong(t, link(h, dirA, "n", now), some(), api.Folder)
		wrong(t, link(h, fileB, "/", now), some(), api.Folder)
	}
	for _, name := range []string{"b", "c", "g"} {
		wrong(t, link(fileB, dirA, name, now), some(), api.Taken)
		wrong(t, link(fileB, dirA, name, now), next(1, api.MaxBig), api.Taken)
	}
	wrong(t, link(fileB, dirA, "n", now), next(1, api.MaxBig), api.NoRoom)
}

func TestLinkFull(t *testing.T) {
	f := at(1, 1)
	wrong(t, link(f, root, "n", now), links(api.MaxLinks), api.NoRoom)
	wrong(t, link(f, root, "n0", now), links(api.MaxLinks), api.Taken)
	wrong(t, link(f, root, "..", now), links(api.MaxLinks), api.BadName)
	l := links(api.MaxLinks - 1)
	grown := dir(1, now, api.MaxLinks, append(l[0].Entries, entry("n", api.MaxLinks, f))...)
	want(t, link(f, root, "n", now), l, result{l: table(grown, file(1, api.MaxLinks, now))})
}

func TestUnlink(t *testing.T) {
	l := some()
	b := file(3, 1, now, l[2].Runs...)
	want(t, unlink(root, "f", now), l, result{l: with(l, map[int]api.Inode{0: dir(1, now, 6, l[0].Entries[:1]...), 2: b}), h: fileB})
	want(t, unlink(dirA, "b", now), l, result{l: with(l, map[int]api.Inode{1: dir(1, now, 9, l[1].Entries[1:]...), 2: b}), h: fileB})
	// The file stays, also without a name.
	m := want(t, unlink(dirA, "g", someStamp), l, result{l: with(l, map[int]api.Inode{1: dir(1, someStamp, 9, l[1].Entries[:2]...), 7: file(1, 0, someStamp)}), h: fileG})
	if _, e := itab.Find(m, fileG); e != api.OK {
		t.Errorf("a file without a name: %v", e)
	}
	wrong(t, unlink(dirA, "g", now), m, api.NotThere)
	for _, c := range []struct {
		dir  api.Handle
		name string
		want api.Errno
	}{{root, "a", api.Folder}, {dirA, "c", api.Folder}, {dirC, "e", api.Folder}, {dirC, "g", api.NotThere}, {dirE, "a", api.NotThere}, {root, "b", api.NotThere}} {
		wrong(t, unlink(c.dir, c.name, now), l, c.want)
	}
}

func TestRmdir(t *testing.T) {
	l := some()
	want(t, rmdir(dirC, "e", now), l, result{l: with(l, map[int]api.Inode{3: dir(1, now, 1), 6: free(2)})})
	m := want(t, rmdir(dirC, "e", someStamp), l, result{l: with(l, map[int]api.Inode{3: dir(1, someStamp, 1), 6: free(2)})})
	m = want(t, rmdir(dirA, "c", now), m, result{l: with(l, map[int]api.Inode{1: dir(1, now, 9, l[1].Entries[0], l[1].Entries[2]), 3: free(1), 6: free(2)})})
	wrong(t, rmdir(dirA, "c", now), m, api.NotThere)
	wrong(t, look(dirC, "e"), m, api.Stale)
	for _, c := range []struct {
		dir  api.Handle
		name string
		want api.Errno
	}{{root, "a", api.Occupied}, {dirA, "c", api.Occupied}, {root, "f", api.NoFolder}, {dirA, "b", api.NoFolder}, {dirA, "g", api.NoFolder}, {dirE, "x", api.NotThere}, {root, "e", api.NotThere}} {
		wrong(t, rmdir(c.dir, c.name, now), l, c.want)
	}
}

// 11.4

func TestRenameFile(t *testing.T) {
	l := some()
	// Within a folder: neither the file nor its links are changed.
	want(t, rename(root, "f", root, "z", now), l, result{l: with(l, map[int]api.Inode{0: dir(1, now, 7, l[0].Entries[0], entry("z", 7, fileB))})})
	want(t, rename(dirA, "b", dirA, "a", someStamp), l, result{l: with(l, map[int]api.Inode{1: dir(1, someStamp, 10, l[1].Entries[1], l[1].Entries[2], entry("a", 10, fileB))})})
	// Into another one, below it, above it.
	want(t, rename(root, "f", dirE, "f", now), l, result{l: with(l, map[int]api.Inode{0: dir(1, now, 6, l[0].Entries[0]), 6: dir(2, now, 5, entry("f", 5, fileB))})})
	want(t, rename(dirA, "g", root, "b", now), l, result{l: with(l, map[int]api.Inode{1: dir(1, now, 9, l[1].Entries[:2]...), 0: dir(1, now, 7, has(0, entry("b", 7, fileG))...)})})
}

func TestRenameFolder(t *testing.T) {
	l := some()
	want(t, rename(root, "a", root, "z", now), l, result{l: with(l, map[int]api.Inode{0: dir(1, now, 7, l[0].Entries[1], entry("z", 7, dirA))})})
	want(t, rename(dirA, "c", root, "c", now), l, result{l: with(l, map[int]api.Inode{1: dir(1, now, 9, l[1].Entries[0], l[1].Entries[2]), 0: dir(1, now, 7, has(0, entry("c", 7, dirC))...)})})
	want(t, rename(dirC, "e", dirA, "e", now), l, result{l: with(l, map[int]api.Inode{3: dir(1, now, 1), 1: dir(1, now, 10, has(1, entry("e", 10, dirE))...)})})
	m := want(t, rename(dirC, "e", dirC, "f", now), l, result{l: with(l, map[int]api.Inode{3: dir(1, now, 2, entry("f", 2, dirE))})})
	wantPaths(t, m, []string{"/", "/a", "/a/b", "/a/c", "/a/c/f", "/a/g", "/f"})
	// A folder goes where it may: beside one that it holds none of.
	m = mk(root, "d", api.KindDir, now).run(l).l
	m = rename(root, "a", at(4, 8), "a", now).run(m).l
	wantPaths(t, m, []string{"/", "/d", "/d/a", "/d/a/b", "/d/a/c", "/d/a/c/e", "/d/a/g", "/f"})
	wrong(t, rename(root, "d", dirE, "d", now), m, api.Inside)
}

func TestRenameInside(t *testing.T) {
	for _, c := range []struct {
		from api.Handle
		name string
		to   api.Handle
	}{{root, "a", dirA}, {root, "a", dirC}, {root, "a", dirE}, {dirA, "c", dirC}, {dirA, "c", dirE}, {dirC, "e", dirE}} {
		for _, name2 := range []string{"n", "b", "c", "e", "a"} {
			wrong(t, rename(c.from, c.name, c.to, name2, now), some(), api.Inside)
			wrong(t, rename(c.from, c.name, c.to, name2, now), next(c.to.No, api.MaxBig), api.Inside)
		}
		wrong(t, rename(c.from, c.name, c.to, "a/b", now), some(), api.BadName)
	}
	l := chain("x")
	for no := range api.MaxInodes - 1 {
		wrong(t, rename(at(no, 1), "x", at(api.MaxInodes-1, 1), "x", now), l, api.Inside)
		wrong(t, rename(at(no, 1), "x", at(no+1, 1), "x", now), l, api.Inside)
		wrong(t, rename(at(no, 1), "x", at(no, 1), "x", now), l, api.Taken)
	}
}

func TestRenameTaken(t *testing.T) {
	for _, c := range []struct {
		from  api.Handle
		name  string
		to    api.Handle
		name2 string
	}{
		{root, "f", root, "f"}, {root, "a", root, "a"}, {dirC, "e", dirC, "e"}, // onto its own name
		{root, "f", root, "a"}, {root, "a", root, "f"}, {dirA, "b", root, "f"}, {root, "f", dirA, "b"}, {root, "f", dirA, "c"}, {dirA, "c", root, "a"},
	} {
		wrong(t, rename(c.from, c.name, c.to, c.name2, now), some(), api.Taken)
		wrong(t, rename(c.from, c.name, c.to, c.name2, now), next(c.to.No, api.MaxBig), api.Taken)
	}
}

func TestRenameRoom(t *testing.T) {
	wrong(t, rename(root, "f", root, "z", now), next(0, api.MaxBig), api.NoRoom)
	wrong(t, rename(root, "f", dirA, "z", now), next(1, api.MaxBig), api.NoRoom)
	wrong(t, rename(dirA, "c", root, "z", now), next(0, api.MaxBig), api.NoRoom)
	// The folder that it comes from needs no room.
	l := next(0, api.MaxBig)
	want(t, rename(root, "f", dirE, "f", now), l, result{l: with(l, map[int]api.Inode{0: dir(1, now, api.MaxBig, l[0].Entries[0]), 6: dir(2, now, 5, entry("f", 5, fileB))})})
	l = next(0, api.MaxBig-1)
	want(t, rename(root, "f", root, "z", now), l, result{l: with(l, map[int]api.Inode{0: dir(1, now, api.MaxBig, l[0].Entries[0], entry("z", api.MaxBig, fileB))})})
	// A table that is full has room for a name that moves.
	l = full()
	if r := rename(root, "n5", root, "z", now).run(l); r.e != api.OK || r.l[0].Next != 100 {
		t.Errorf("Rename in a full table: %v", r.e)
	}
}

// every is each call that has a stamp, with arguments that are right for some.
func every(stamp int) []call {
	return []call{
		mk(root, "n", api.KindFile, stamp), link(fileB, root, "n", stamp), unlink(root, "f", stamp), rmdir(dirC, "e", stamp), rename(root, "f", dirE, "n", stamp),
	}
}

func TestStamps(t *testing.T) {
	for _, c := range []struct {
		stamp int
		want  api.Errno
	}{
		{math.MinInt, api.ErrArg}, {-1, api.ErrArg}, {0, api.ErrArg}, {someStamp - 1, api.ErrArg}, {someStamp, api.OK}, {someStamp + 1, api.OK},
		{api.MaxBig - 1, api.OK}, {api.MaxBig, api.OK}, {api.MaxBig + 1, api.ErrArg}, {math.MaxInt, api.ErrArg},
	} {
		for _, x := range every(c.stamp) {
			if r := x.run(some()); r.e != c.want {
				t.Errorf("%+v: %v; want %v", x, r.e, c.want)
			}
			want(t, x, some(), x.expect(some()))
		}
	}
	// The greatest stamp is that of all inodes, whichever has it, also one without a name.
	for no, x := range some() {
		if x.Attr.Kind == api.KindFree {
			continue
		}
		l := changed(some(), no, func(x *api.Inode) { x.Attr.Stamp = now + 5 })
		for i, c := range every(now + 4) {
			wrong(t, c, l, api.ErrArg)
			want(t, every(now + 5)[i], l, every(now + 5)[i].expect(l))
		}
	}
	for _, stamp := range []int{-1, 0, api.MaxBig, api.MaxBig + 1} {
		c := mk(root, "n", api.KindFile, stamp)
		if r := c.run(itab.New()); (r.e == api.OK) != (stamp == 0 || stamp == api.MaxBig) {
			t.Errorf("Make in a new table by %d: %v", stamp, r.e)
		}
	}
}

func TestExample(t *testing.T) {
	l := want(t, mk(root, "a", api.KindDir, 1), itab.New(), result{l: table(dir(1, 1, 1, entry("a", 1, at(1, 1))), made(1, api.KindDir, 1)), h: at(1, 1)})
	l = want(t, mk(at(1, 1), "b", api.KindFile, 2), l, result{l: table(l[0], dir(1, 2, 1, entry("b", 1, at(2, 1))), made(1, api.KindFile, 2)), h: at(2, 1)})
	wrong(t, rename(root, "a", at(1, 1), "c", 3), l, api.Inside)
	wrong(t, rmdir(root, "a", 3), l, api.Occupied)
	wantPaths(t, l, []string{"/", "/a", "/a/b"})
}
