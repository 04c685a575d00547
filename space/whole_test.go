package space

import (
	"math"
	"slices"
	"testing"

	"sexton/api"
	"sexton/itab"
)

// handles are handles of each kind in some, and such that name nothing.
func handles() []api.Handle {
	return []api.Handle{root, dirA, dirC, dirE, fileB, fileG, orphan, at(4, 7), at(1, 2), at(8, 1), at(-1, 1)}
}

// texts are names that are there, that are not, and that are none.
func texts() []string { return []string{"a", "b", "c", "e", "f", "n", "", "..", "a/b"} }

// states are spaces like some, with room and without, and one that is none.
func states() [][]api.Inode {
	noInode := some()
	noInode[4] = free(api.MaxBig)
	for len(noInode) < api.MaxInodes {
		noInode = append(noInode, file(1, 0, 0))
	}
	return [][]api.Inode{some(), next(0, api.MaxBig), next(1, api.MaxBig), noInode, changed(some(), 0, func(x *api.Inode) { x.Attr.Size++ })}
}

// calls are calls of all kinds with all arguments.
func calls(stamp int) []call {
	var out []call
	for _, h := range handles() {
		for _, name := range texts() {
			out = append(out, look(h, name), unlink(h, name, stamp), rmdir(h, name, stamp))
			for kind := -1; kind <= 3; kind++ {
				out = append(out, mk(h, name, kind, stamp))
			}
			for _, k := range handles() {
				out = append(out, link(k, h, name, stamp))
				for _, name2 := range texts() {
					out = append(out, rename(h, name, k, name2, stamp))
				}
			}
		}
	}
	return out
}

// TestOrder: of several faults the one that the chapter names first is told; and what is told besides, at all arguments.
func TestOrder(t *testing.T) {
	told := map[[2]int]int{}
	for _, stamp := range []int{someStamp, someStamp - 1} {
		for _, c := range calls(stamp) {
			for _, l := range states() {
				w := c.expect(l)
				if want(t, c, l, w); t.Failed() {
					return
				}
				told[[2]int{c.do, int(w.e)}]++
			}
		}
	}
	for do, es := range [][]api.Errno{
		doLook:   {api.OK, api.ErrForm, api.Stale, api.NoFolder, api.BadName, api.NotThere},
		doMake:   {api.OK, api.ErrForm, api.ErrArg, api.Stale, api.NoFolder, api.BadName, api.Taken, api.NoRoom},
		doLink:   {api.OK, api.ErrForm, api.ErrArg, api.Stale, api.Folder, api.NoFolder, api.BadName, api.Taken, api.NoRoom},
		doUnlink: {api.OK, api.ErrForm, api.ErrArg, api.Stale, api.NoFolder, api.BadName, api.NotThere, api.Folder},
		doRmdir:  {api.OK, api.ErrForm, api.ErrArg, api.Stale, api.NoFolder, api.BadName, api.NotThere, api.Occupied},
		doRename: {api.OK, api.ErrForm, api.ErrArg, api.Stale, api.NoFolder, api.BadName, api.NotThere, api.Inside, api.Taken, api.NoRoom},
	} {
		for _, e := range es {
			if told[[2]int{do, int(e)}] == 0 {
				t.Errorf("call %d: none tells %v", do, e)
			}
		}
	}
}

// in are calls with h where a folder is asked for, with names that are right and that are none.
func in(h api.Handle) []call {
	return []call{
		look(h, "a"), mk(h, "n", api.KindFile, now), link(fileB, h, "n", now), unlink(h, "f", now), rmdir(h, "e", now), rename(h, "f", root, "n", now), rename(root, "f", h, "n", now),
		look(h, "/"), mk(h, "/", api.KindFile, now), link(fileB, h, "/", now), unlink(h, "/", now), rmdir(h, "/", now), rename(h, "/", root, "n", now), rename(root, "f", h, "/", now),
	}
}

// TestBadArguments: handles and names that are none, in each place where there may be one.
func TestBadArguments(t *testing.T) {
	l := some()
	for _, h := range stales() {
		for _, c := range in(h) {
			wrong(t, c, l, api.Stale)
		}
	}
	for _, h := range []api.Handle{fileB, fileG, orphan} {
		for _, c := range in(h) {
			wrong(t, c, l, api.NoFolder)
		}
	}
	for _, s := range badNames() {
		for _, c := range []call{
			look(root, s), mk(root, s, api.KindFile, now), link(fileB, root, s, now), unlink(root, s, now), rmdir(root, s, now), rename(root, s, root, "n", now), rename(root, "f", root, s, now),
			rename(root, s, at(9, 9), "n", now), rename(root, s, fileB, "n", now), rename(root, s, root, "a", now), rename(root, "a", dirA, s, now),
		} {
			wrong(t, c, l, api.BadName)
		}
	}
	wrong(t, rename(root, "q", at(9, 9), "/", now), l, api.NotThere)
	wrong(t, rename(root, "q", fileB, "/", now), l, api.NotThere)
	wrong(t, rename(root, "q", root, "a", now), l, api.NotThere)
}

// TestNoSpace: of a table that is no space nothing else is told.
func TestNoSpace(t *testing.T) {
	for _, l := range noSpaces() {
		for _, stamp := range []int{-1, 0, now, math.MaxInt} {
			for _, c := range append(every(stamp), look(root, "a"), look(at(9, 9), "/"), mk(at(9, 9), "/", 7, stamp), link(at(9, 9), at(9, 9), "/", stamp), unlink(at(9, 9), "/", stamp), rmdir(at(9, 9), "/", stamp), rename(at(9, 9), "/", at(9, 9), "/", stamp)) {
				wrong(t, c, l, api.ErrForm)
			}
		}
	}
}

// TestMemory: what is handed in is neither changed nor kept, and what is told is new where it was changed.
func TestMemory(t *testing.T) {
	for _, c := range append(every(now), mk(dirA, "n", api.KindDir, now), link(orphan, dirA, "n", now), unlink(dirA, "g", now), rename(dirA, "b", dirA, "n", now), rename(dirA, "c", root, "c", now)) {
		l := some()
		first := c.run(l).l
		if len(first) == 0 || !same(l, some()) || !same(l[:cap(l)], some()[:cap(l)]) {
			t.Errorf("%+v changes what it is handed: %v", c, l)
		}
		for i, x := range l {
			if !slices.Equal(x.Entries[:cap(x.Entries)], some()[i].Entries[:cap(x.Entries)]) {
				t.Errorf("%+v changes the room behind what it is handed: %v", c, x.Entries[:cap(x.Entries)])
			}
		}
		kept := plain(first)
		spoil(first)
		if !same(l, some()) || !same(c.run(l).l, kept) {
			t.Errorf("%+v: what is told is not new", c)
		}
		again := c.run(l).l
		spoil(l)
		if !same(again, kept) {
			t.Errorf("%+v keeps what it is handed: %v", c, again)
		}
	}
	l := some()
	p := Paths(l)
	for i := range p[:cap(p)] {
		p[:cap(p)][i] = "spoilt"
	}
	wantPaths(t, l, somePaths())
	if !same(l, some()) {
		t.Errorf("Paths changes what it is handed: %v", l)
	}
}

// walker does calls to a space by a rule of numbers, each held against what it should answer.
type walker struct {
	l     []api.Inode
	x     int
	stamp int
	did   map[[2]int]int
	gone  []api.Handle
}

// below is the next number of the rule, below n.
func (w *walker) below(n int) int {
	w.x = w.x * 48271 % (1<<31 - 1)
	return w.x >> 4 % (1 << 20) % n
}

// handle is that of an inode; now and then of one that is gone.
func (w *walker) handle() api.Handle {
	if len(w.gone) > 0 && w.below(12) == 0 {
		return w.gone[w.below(len(w.gone))]
	}
	used := itab.Used(w.l)
	return used[w.below(len(used))]
}

// folder is a folder's handle, mostly.
func (w *walker) folder() api.Handle {
	for range 4 {
		if h := w.handle(); kindOf(w.l, h) == api.KindDir {
			return h
		}
	}
	return w.handle()
}

// place is a name that is there, mostly, and the folder where it is.
func (w *walker) place() (api.Handle, string) {
	h := w.folder()
	for range 5 {
		if names(w.l, h) && len(w.l[h.No].Entries) > 0 && w.below(8) > 0 {
			return h, w.l[h.No].Entries[w.below(len(w.l[h.No].Entries))].Name
		}
		h = w.folder()
	}
	return h, w.name()
}

func (w *walker) name() string {
	return []string{"a", "b", "c", "d", "aa", "a!", "ä", "\xff", "Z", "."}[w.below(10)]
}

// call is the next call of the rule.
func (w *walker) call() call {
	h, name := w.place()
	switch w.below(9) {
	case 0:
		return look(h, name)
	case 1, 2:
		return mk(w.folder(), w.name(), api.KindFile+w.below(2), w.stamp)
	case 3:
		return link(w.handle(), w.folder(), w.name(), w.stamp)
	case 4:
		return unlink(h, name, w.stamp)
	case 5:
		return rmdir(h, name, w.stamp)
	}
	return rename(h, name, w.folder(), w.name(), w.stamp)
}

// step does a call, and holds what it answers against what it should.
func (w *walker) step(t *testing.T) {
	c := w.call()
	before := plain(w.l)
	r, e := c.run(w.l), c.expect(w.l)
	if !same(r.l, e.l) || r.h != e.h || r.e != e.e || !same(w.l, before) {
		t.Fatalf("%+v of %v: %v, %v, %v; want %v, %v, %v", c, before, r.l, r.h, r.e, e.l, e.h, e.e)
	}
	w.did[[2]int{c.do, int(r.e)}]++
	if r.e != api.OK || c.do == doLook {
		return
	}
	w.stays(t, c, r)
	for _, h := range itab.Used(w.l) {
		if !names(r.l, h) {
			w.gone = append(w.gone, h)
		}
	}
	w.l = r.l
	w.stamp += w.below(3)
}

// stays tells whether a space stays one in which what was made is found, and all other names are as they were.
func (w *walker) stays(t *testing.T, c call, r result) {
	if Check(r.l) != api.OK {
		t.Fatalf("%+v of %v: %v is no space", c, w.l, r.l)
	}
	switch c.do {
	case doMake:
		want(t, look(c.dir, c.name), r.l, result{h: r.h})
	case doLink:
		want(t, look(c.dir, c.name), r.l, result{h: c.h})
	case doRename:
		moved, _ := lookup(w.l, c.dir, c.name)
		want(t, look(c.to, c.name2), r.l, result{h: moved})
		wrong(t, look(c.dir, c.name), r.l, api.NotThere)
	case doUnlink, doRmdir:
		wrong(t, look(c.dir, c.name), r.l, api.NotThere)
	}
	for _, h := range itab.Used(w.l) {
		for _, x := range w.l[h.No].Entries {
			if h == c.dir && x.Name == c.name {
				continue
			}
			want(t, look(h, x.Name), r.l, result{h: x.To})
		}
	}
}

// 11.5

func TestWalk(t *testing.T) {
	w := &walker{l: itab.New(), x: 1, did: map[[2]int]int{}}
	for i := range 12000 {
		if i%1500 == 0 {
			w.l, w.gone = itab.New(), nil
		}
		w.step(t)
		if i%10 == 0 {
			wantPaths(t, w.l, pathsOf(w.l))
		}
	}
	for do := doLook; do <= doRename; do++ {
		if n := w.did[[2]int{do, int(api.OK)}]; n < 100 {
			t.Errorf("call %d was done only %d times", do, n)
		}
	}
	for _, k := range [][2]int{{doMake, int(api.NoRoom)}, {doLink, int(api.Taken)}, {doUnlink, int(api.Folder)}, {doRmdir, int(api.Occupied)}, {doRename, int(api.Inside)}, {doRename, int(api.Taken)}, {doRename, int(api.Stale)}} {
		if w.did[k] == 0 {
			t.Errorf("call %d never told %d", k[0], k[1])
		}
	}
}

// bend changes something in a table.
func (w *walker) bend(l []api.Inode) []api.Inode {
	l = plain(l)
	x := &l[w.below(len(l))]
	by := w.below(2)*2 - 1
	if len(x.Entries) > 0 && w.below(3) > 0 {
		y := &x.Entries[w.below(len(x.Entries))]
		*y = []api.Entry{
			entry(y.Name, y.Cookie, w.handle()), entry(y.Name, y.Cookie+by, y.To), entry(w.name(), y.Cookie, y.To),
			entry(y.Name, y.Cookie, at(y.To.No+by, y.To.Gen)), entry(y.Name, y.Cookie, at(y.To.No, y.To.Gen+by)),
		}[w.below(5)]
		return l
	}
	switch w.below(6) {
	case 0:
		x.Gen += by
	case 1:
		x.Attr.Links += by
	case 2:
		x.Attr.Size += by
	case 3:
		x.Next += by
	case 4:
		x.Entries = x.Entries[:len(x.Entries)*w.below(2)]
		x.Attr.Size = len(x.Entries)
	case 5:
		*x = l[w.below(len(l))]
	}
	return l
}

// swap has two entries name what the other one named: links stay counted, and folders may be cut off.
func (w *walker) swap(l []api.Inode) []api.Inode {
	l = plain(l)
	a, b := &l[w.below(len(l))], &l[w.below(len(l))]
	if len(a.Entries) == 0 || len(b.Entries) == 0 {
		return l
	}
	x, y := &a.Entries[w.below(len(a.Entries))], &b.Entries[w.below(len(b.Entries))]
	x.To, y.To = y.To, x.To
	return l
}

// TestBent: what is a space, among tables that are nearly one.
func TestBent(t *testing.T) {
	w := &walker{l: itab.New(), x: 7, did: map[[2]int]int{}}
	held := map[api.Errno]int{}
	for i := range 12000 {
		if i%1500 == 0 {
			w.l, w.gone = itab.New(), nil
		}
		w.step(t)
		for _, l := range [][]api.Inode{w.bend(w.l), w.swap(w.l), w.bend(w.bend(w.l))} {
			want := api.OK
			if !isSpace(l) {
				want = api.ErrForm
			}
			if e := Check(l); e != want {
				t.Fatalf("Check(%v): %v; want %v", l, e, want)
			}
			held[want]++
		}
	}
	if held[api.OK] < 1000 || held[api.ErrForm] < 1000 {
		t.Errorf("tables: %v", held)
	}
}

// TestTotal: every call ends, none panics (P1).
func TestTotal(t *testing.T) {
	odd := []api.Handle{at(math.MinInt, math.MinInt), at(-1, 0), root, dirA, fileB, at(23, 1), at(24, 1), at(math.MaxInt, math.MaxInt)}
	for _, l := range append(spaces(), noSpaces()...) {
		for _, h := range odd {
			for _, k := range odd {
				for _, stamp := range []int{math.MinInt, now, math.MaxInt} {
					for _, c := range []call{look(h, "a"), mk(h, "n", stamp, stamp), mk(h, "n", api.KindDir, now), link(k, h, "n", stamp), unlink(h, "f", stamp), rmdir(h, "a", stamp), rename(h, "a", k, "n", stamp)} {
						r := c.run(l)
						if r.e == api.OK && c.do != doLook && !isSpace(r.l) || r.e != api.OK && (r.l != nil || r.h != api.Handle{}) {
							t.Fatalf("%+v of %v: %v, %v, %v", c, l, r.l, r.h, r.e)
						}
					}
				}
			}
		}
	}
}
