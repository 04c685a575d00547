package space

import (
	"reflect"
	"strconv"
	"testing"

	"sexton/api"
)

func at(no, gen int) api.Handle { return api.Handle{No: no, Gen: gen} }

func entry(name string, cookie int, to api.Handle) api.Entry {
	return api.Entry{Name: name, Cookie: cookie, To: to}
}

func free(gen int) api.Inode { return api.Inode{Gen: gen} }

func file(gen, links, stamp int, runs ...api.Run) api.Inode {
	return api.Inode{Gen: gen, Attr: api.Attr{Kind: api.KindFile, Links: links, Size: 12, Stamp: stamp}, Runs: runs}
}

func dir(gen, stamp, next int, entries ...api.Entry) api.Inode {
	return api.Inode{Gen: gen, Attr: api.Attr{Kind: api.KindDir, Links: 1, Size: len(entries), Stamp: stamp}, Entries: entries, Next: next}
}

// made is what is newly made: a file or a folder with nothing in it.
func made(gen, kind, stamp int) api.Inode {
	return api.Inode{Gen: gen, Attr: api.Attr{Kind: kind, Links: 1, Stamp: stamp}}
}

func table(l ...api.Inode) []api.Inode { return l }

// The handles of what is in some.
var (
	root   = at(0, 1)
	dirA   = at(1, 1) // /a
	fileB  = at(2, 3) // /a/b and /f
	dirC   = at(3, 1) // /a/c
	orphan = at(5, 2) // no name
	dirE   = at(6, 2) // /a/c/e, empty
	fileG  = at(7, 1) // /a/g
)

// someStamp is the greatest stamp in some.
const someStamp = 9

// some is a space of each kind of inode, new each time, with spare room in each list.
func some() []api.Inode {
	top := make([]api.Entry, 0, 9)
	top = append(top, entry("a", 2, dirA), entry("f", 5, fileB))
	below := make([]api.Entry, 0, 9)
	below = append(below, entry("b", 1, fileB), entry("c", 2, dirC), entry("g", 7, fileG))
	runs := make([]api.Run, 0, 9)
	runs = append(runs, api.Run{At: 1, Data: "ab"}, api.Run{At: 9, Data: "cde"})
	l := make([]api.Inode, 0, 9)
	return append(l,
		dir(1, 4, 6, top...), dir(1, someStamp, 9, below...), file(3, 2, 2, runs...), dir(1, 3, 1, entry("e", 1, dirE)),
		free(7), file(2, 0, 8, api.Run{At: 0, Data: "z"}), dir(2, 0, 4), file(1, 1, 0))
}

func somePaths() []string {
	return []string{"/", "/a", "/a/b", "/a/c", "/a/c/e", "/a/g", "/f"}
}

// plain is a table of its own in which lists of nothing are nil, so that two of them may be held against each other.
func plain(l []api.Inode) []api.Inode {
	var out []api.Inode
	for _, x := range l {
		x.Runs = append([]api.Run(nil), x.Runs...)
		x.Entries = append([]api.Entry(nil), x.Entries...)
		out = append(out, x)
	}
	return out
}

func same(a, b []api.Inode) bool { return reflect.DeepEqual(plain(a), plain(b)) }

// changed is a table of its own like l, in which the inode of a number was changed by f.
func changed(l []api.Inode, no int, f func(*api.Inode)) []api.Inode {
	l = plain(l)
	f(&l[no])
	return l
}

// spoil changes all that can be got at in a table, spare room too.
func spoil(l []api.Inode) {
	for i := range l {
		runs, entries := l[i].Runs[:cap(l[i].Runs)], l[i].Entries[:cap(l[i].Entries)]
		for j := range runs {
			runs[j] = api.Run{At: -7, Data: "spoilt"}
		}
		for j := range entries {
			entries[j] = entry("spoilt", -7, at(-7, -7))
		}
	}
	for i := range l[:cap(l)] {
		l[:cap(l)][i] = free(-7)
	}
}

// links are a root alone with a file that has n names in it: n0, n1 and so on.
func links(n int) []api.Inode {
	var entries []api.Entry
	for i := range n {
		entries = append(entries, entry("n"+strconv.Itoa(i), i+1, at(1, 1)))
	}
	return table(dir(1, 0, n, entries...), file(1, n, 0))
}

// full is a root with files in it, as many as there may be.
func full() []api.Inode {
	l := table(dir(1, 0, 99))
	for no := 1; no < api.MaxInodes; no++ {
		l[0].Entries = append(l[0].Entries, entry("n"+strconv.Itoa(no), no, at(no, 1)))
		l[0].Attr.Size++
		l = append(l, file(1, 1, 0))
	}
	return l
}

// chain are folders, each in the one ahead of it, as many as there may be.
func chain(name string) []api.Inode {
	l := table(dir(1, 0, 0))
	for no := 1; no < api.MaxInodes; no++ {
		l[no-1] = dir(1, 0, 1, entry(name, 1, at(no, 1)))
		l = append(l, dir(1, 0, 0))
	}
	return l
}

// next is some, with another next cookie of a folder.
func next(no, n int) []api.Inode {
	return changed(some(), no, func(x *api.Inode) { x.Next = n })
}

// result is what a call answers; one that has no handle to tell has none here.
type result struct {
	l []api.Inode
	h api.Handle
	e api.Errno
}

// want holds what a call answers against what it should.
func want(t *testing.T, c call, l []api.Inode, w result) []api.Inode {
	t.Helper()
	r := c.run(l)
	if !same(r.l, w.l) || r.h != w.h || r.e != w.e {
		t.Errorf("%+v of %v: %v, %v, %v; want %v, %v, %v", c, l, r.l, r.h, r.e, w.l, w.h, w.e)
	}
	return r.l
}

// wrong holds what a call answers against an error.
func wrong(t *testing.T, c call, l []api.Inode, e api.Errno) {
	t.Helper()
	want(t, c, l, result{e: e})
}
