package nfs

import (
	"math"
	"reflect"
	"strings"
	"testing"

	"sexton/api"
)

// every is a call of each kind that is done to some without an error, by client 5.
func every() []api.Call {
	return []api.Call{
		look(root, "a"), attrCall(fileB), mk(root, "n"), mkdir(root, "n"), read(fileB, 0, 9), write(fileB, 3, "new"), cut(fileB, 4),
		link(fileB, dirE, "n"), unlink(dirA, "g"), rmdir(dirC, "e"), rename(root, "f", dirE, "n"), list(root, 0, 9), openCall(fileG), closeCall(1),
	}
}

// stales are handles that name nothing in some.
func stales() []api.Handle {
	return []api.Handle{{}, at(0, 0), at(0, 2), at(2, 2), at(2, 4), at(4, 7), at(4, 8), at(5, 1), at(6, 1), at(7, 2), at(8, 1), at(8, 0), at(api.MaxInodes, 1), at(255, 1), at(7, api.MaxBig)}
}

func badNames() []string {
	return []string{"", ".", "..", "/", "a/b", "\x00", "a\x00", strings.Repeat("x", api.MaxName+1), strings.Repeat("x", 255)}
}

// badCalls are calls that are not right.
func badCalls() []api.Call {
	var l []api.Call
	for _, kind := range []int{math.MinInt, -1, 0, api.CallClose + 1, 255, math.MaxInt} {
		l = append(l, api.Call{Kind: kind, H: root, Name: "a"})
	}
	for _, c := range every() {
		for _, h := range []api.Handle{at(-1, 1), at(256, 1), at(0, -1), at(0, api.MaxBig+1), at(math.MinInt, math.MaxInt)} {
			x, y := c, c
			x.H, y.H2 = h, h
			l = append(l, x, y)
		}
		x, y := c, c
		x.Name, y.Name2 = strings.Repeat("x", 256), strings.Repeat("x", 256)
		l = append(l, x, y)
		for _, at := range []int{math.MinInt, -1, 1 << 32, math.MaxInt} {
			x := c
			x.At = at
			l = append(l, x)
		}
		for _, n := range []int{math.MinInt, -1, 65536, math.MaxInt} {
			x := c
			x.N = n
			l = append(l, x)
		}
		x = c
		x.Data = bytes(1025)
		l = append(l, x)
	}
	return l
}

// asItIs holds a call that tells an error against one that does nothing at all.
func asItIs(t *testing.T, s api.State, client int, c api.Call, e api.Errno) {
	t.Helper()
	before := plain(s)
	got, r := Do(s, client, c)
	if !same(got, before) || !same(s, before) || !reflect.DeepEqual(r, api.Reply{E: e}) {
		t.Errorf("Do(%.1000v, %d, %.300v): %.1000v, %.300v; want %v", s, client, c, got, r, e)
	}
}

// 15.2: what is wrong ahead of the call

func clients() []int { return []int{math.MinInt, -1, 0, 5, api.MaxBig, api.MaxBig + 1, math.MaxInt} }

func TestWrongState(t *testing.T) {
	for _, s := range wrongStates() {
		for _, client := range clients() {
			for _, c := range []api.Call{look(root, "a"), attrCall(root), write(fileB, 0, "x"), closeCall(0), {}, {Kind: -1}} {
				asItIs(t, s, client, c, api.ErrForm)
			}
		}
	}
}

func TestDoneFull(t *testing.T) {
	s := changed(some(), done(api.MaxBig))
	for _, client := range clients() {
		for _, c := range append(every(), api.Call{}, look(at(9, 9), "/")) {
			asItIs(t, s, client, c, api.ErrFull)
		}
	}
	// One ahead of it there is one stamp left.
	s = changed(some(), done(api.MaxBig-1))
	x := want(t, s, 5, cut(fileG, 3), api.Reply{Attr: api.Attr{Kind: api.KindFile, Links: 1, Size: 3, Stamp: api.MaxBig}}, inode(7, file(1, 1, 3, api.MaxBig)))
	asItIs(t, x, 5, cut(fileG, 3), api.ErrFull)
	fails(t, s, 5, api.Call{}, api.BadCall)
	fails(t, s, 5, cut(root, 3), api.Folder)
}

func TestClient(t *testing.T) {
	for _, client := range []int{math.MinInt, -2, -1, api.MaxBig + 1, math.MaxInt} {
		for _, c := range append(every(), api.Call{}, look(at(9, 9), "/")) {
			asItIs(t, some(), client, c, api.ErrArg)
		}
	}
	for _, client := range []int{0, 1, api.MaxBig - 1, api.MaxBig} {
		s := want(t, some(), client, openCall(fileG), api.Reply{N: 2}, opened(open(0, 5, fileB), open(1, 5, orphan), open(2, client, fileG), open(3, 7, fileB)))
		want(t, s, client, closeCall(2), api.Reply{}, opened(some().Opens...))
	}
}

func TestBadCall(t *testing.T) {
	for _, c := range badCalls() {
		for _, client := range []int{0, 5, api.MaxBig} {
			fails(t, some(), client, c, api.BadCall)
			fails(t, New(), client, c, api.BadCall)
		}
	}
}

// TestNotNeeded: what a kind does not need is not looked at, as long as the call is right.
func TestNotNeeded(t *testing.T) {
	for _, c := range every() {
		x := c
		switch c.Kind {
		case api.CallLink:
			x.Name2, x.At, x.N, x.Data = "/", 1<<32-1, 65535, bytes(1024)
		case api.CallRename:
			x.At, x.N, x.Data = 1<<32-1, 65535, bytes(1024)
		case api.CallClose:
			x.H, x.H2, x.Name, x.Name2, x.At, x.Data = at(255, 0), at(255, 0), "/", "/", 1<<32-1, bytes(1024)
		case api.CallRead, api.CallList:
			x.H2, x.Name, x.Name2, x.Data = at(255, 0), "/", "/", bytes(1024)
		case api.CallWrite:
			x.H2, x.Name, x.Name2, x.N = at(255, 0), "/", "/", 65535
		case api.CallCut:
			x.H2, x.Name, x.Name2, x.N, x.Data = at(255, 0), "/", "/", 65535, bytes(1024)
		default:
			x.H2, x.Name2, x.At, x.N, x.Data = at(255, 0), "/", 1<<32-1, 65535, bytes(1024)
		}
		a, ra := try(t, some(), 5, c, api.OK)
		b, rb := try(t, some(), 5, x, api.OK)
		if !same(a, b) || !reflect.DeepEqual(ra, rb) {
			t.Errorf("%.300v: %v; %.300v: %v", c, ra, x, rb)
		}
	}
}

// 15.2: names

func TestLook(t *testing.T) {
	s := some()
	for _, c := range []struct {
		dir  api.Handle
		name string
		h    api.Handle
	}{{root, "a", dirA}, {root, "f", fileB}, {dirA, "b", fileB}, {dirA, "c", dirC}, {dirA, "g", fileG}, {dirC, "e", dirE}} {
		want(t, s, 0, look(c.dir, c.name), api.Reply{H: c.h, Attr: s.Inodes[c.h.No].Attr})
	}
	fails(t, s, 0, look(root, "b"), api.NotThere)
	fails(t, s, 0, look(fileB, "b"), api.NoFolder)
	fails(t, s, 0, look(orphan, "/"), api.NoFolder)
}

func TestAttr(t *testing.T) {
	s := some()
	for _, h := range []api.Handle{root, dirA, fileB, dirC, orphan, dirE, fileG} {
		want(t, s, 0, attrCall(h), api.Reply{Attr: s.Inodes[h.No].Attr})
	}
	for _, h := range stales() {
		fails(t, s, 0, attrCall(h), api.Stale)
	}
}

func TestMake(t *testing.T) {
	s := some()
	for _, c := range []struct {
		call func(api.Handle, string) api.Call
		kind int
	}{{mk, api.KindFile}, {mkdir, api.KindDir}} {
		a := api.Attr{Kind: c.kind, Links: 1, Stamp: now}
		x := api.Inode{Gen: 8, Attr: a}
		r := api.Reply{H: at(4, 8), Attr: a}
		want(t, s, 0, c.call(root, "n"), r, inode(0, dir(1, now, 7, append(s.Inodes[0].Entries, entry("n", 7, r.H))...)), inode(4, x))
		want(t, s, 9, c.call(dirE, "a"), r, inode(6, dir(2, now, 5, entry("a", 5, r.H))), inode(4, x))
		first := api.Reply{H: at(1, 1), Attr: api.Attr{Kind: c.kind, Links: 1, Stamp: 1}}
		want(t, New(), 0, c.call(root, "a"), first, inode(0, dir(1, 1, 1, entry("a", 1, at(1, 1)))), inode(1, api.Inode{Gen: 1, Attr: first.Attr}))
		fails(t, s, 0, c.call(root, "a"), api.Taken)
		fails(t, s, 0, c.call(fileB, "a"), api.NoFolder)
		fails(t, crowded(), 0, c.call(root, "n"), api.NoRoom)
		fails(t, crowded(), 0, c.call(root, "n1"), api.Taken)
		fails(t, changed(s, func(s *api.State) { s.Inodes[0].Next = api.MaxBig }), 0, c.call(root, "n"), api.NoRoom)
		fails(t, changed(s, func(s *api.State) { s.Inodes[0].Next = api.MaxBig }), 0, c.call(root, "f"), api.Taken)
	}
}

func TestLink(t *testing.T) {
	s := some()
	linked := file(3, 3, 15, now, s.Inodes[2].Runs...)
	want(t, s, 0, link(fileB, dirE, "n"), api.Reply{Attr: linked.Attr}, inode(6, dir(2, now, 5, entry("n", 5, fileB))), inode(2, linked))
	want(t, s, 0, link(fileB, root, "b"), api.Reply{Attr: linked.Attr}, inode(0, dir(1, now, 7, append(s.Inodes[0].Entries, entry("b", 7, fileB))...)), inode(2, linked))
	// A file without a name gets one.
	named := file(2, 1, 3, now, s.Inodes[5].Runs...)
	want(t, s, 0, link(orphan, dirE, "n"), api.Reply{Attr: named.Attr}, inode(6, dir(2, now, 5, entry("n", 5, orphan))), inode(5, named))
	fails(t, s, 0, link(dirA, root, "n"), api.Folder)
	fails(t, s, 0, link(root, fileB, "/"), api.Folder)
	fails(t, s, 0, link(fileB, fileB, "n"), api.NoFolder)
	fails(t, s, 0, link(fileB, root, "f"), api.Taken)
	fails(t, links(api.MaxLinks), 0, link(at(1, 1), root, "n"), api.NoRoom)
	fails(t, links(api.MaxLinks), 0, link(at(1, 1), root, "n0"), api.Taken)
	if x, r := try(t, links(api.MaxLinks-1), 0, link(at(1, 1), root, "n"), api.OK); r.Attr.Links != api.MaxLinks || x.Inodes[1].Attr != r.Attr {
		t.Errorf("the last link: %v", r)
	}
	fails(t, changed(s, func(s *api.State) { s.Inodes[0].Next = api.MaxBig }), 0, link(fileB, root, "n"), api.NoRoom)
}

func TestUnlink(t *testing.T) {
	s := some()
	// One of two names, of a file that is held.
	want(t, s, 0, unlink(root, "f"), api.Reply{}, inode(0, dir(1, now, 6, s.Inodes[0].Entries[:1]...)), inode(2, file(3, 1, 15, now, s.Inodes[2].Runs...)))
	// One of two names, of a file that is not.
	x := changed(s, opened(open(1, 5, orphan)))
	want(t, x, 0, unlink(dirA, "b"), api.Reply{}, inode(1, dir(1, now, 9, s.Inodes[1].Entries[1:]...)), inode(2, file(3, 1, 15, now, s.Inodes[2].Runs...)))
	// The only one, of a file that is not held: nobody needs it.
	want(t, s, 0, unlink(dirA, "g"), api.Reply{}, inode(1, dir(1, now, 9, s.Inodes[1].Entries[:2]...)), inode(7, free(1)))
	// The only one, of a file that is.
	x = changed(s, opened(open(1, 5, orphan), open(2, 6, fileG)))
	want(t, x, 0, unlink(dirA, "g"), api.Reply{}, inode(1, dir(1, now, 9, s.Inodes[1].Entries[:2]...)), inode(7, file(1, 0, 0, now)))
	fails(t, s, 0, unlink(root, "a"), api.Folder)
	fails(t, s, 0, unlink(dirC, "e"), api.Folder)
	fails(t, s, 0, unlink(root, "b"), api.NotThere)
	fails(t, s, 0, unlink(fileB, "b"), api.NoFolder)
}

func TestRmdir(t *testing.T) {
	s := some()
	x := want(t, s, 0, rmdir(dirC, "e"), api.Reply{}, inode(3, dir(1, now, 1)), inode(6, free(2)))
	want(t, x, 0, rmdir(dirA, "c"), api.Reply{}, inode(1, dir(1, now+1, 9, s.Inodes[1].Entries[0], s.Inodes[1].Entries[2])), inode(3, free(1)))
	fails(t, x, 0, attrCall(dirE), api.Stale)
	fails(t, s, 0, rmdir(root, "a"), api.Occupied)
	fails(t, s, 0, rmdir(root, "f"), api.NoFolder)
	fails(t, s, 0, rmdir(fileB, "f"), api.NoFolder)
	fails(t, s, 0, rmdir(root, "e"), api.NotThere)
}

func TestRename(t *testing.T) {
	s := some()
	in0, in1 := s.Inodes[0].Entries, s.Inodes[1].Entries
	// A file within a folder, and into another one: its links are as they were, and so is its stamp.
	want(t, s, 0, rename(root, "f", root, "n"), api.Reply{}, inode(0, dir(1, now, 7, in0[0], entry("n", 7, fileB))))
	want(t, s, 0, rename(root, "f", dirE, "f"), api.Reply{}, inode(0, dir(1, now, 6, in0[0])), inode(6, dir(2, now, 5, entry("f", 5, fileB))))
	// A folder.
	want(t, s, 0, rename(dirA, "c", root, "c"), api.Reply{}, inode(1, dir(1, now, 9, in1[0], in1[2])), inode(0, dir(1, now, 7, in0[0], in0[1], entry("c", 7, dirC))))
	// With all the links that it may have.
	if x, _ := try(t, links(api.MaxLinks), 0, rename(root, "n0", root, "n"), api.OK); x.Inodes[1].Attr.Links != api.MaxLinks {
		t.Errorf("links: %v", x.Inodes[1].Attr)
	}
	fails(t, s, 0, rename(root, "a", dirA, "n"), api.Inside)
	fails(t, s, 0, rename(root, "a", dirE, "n"), api.Inside)
	fails(t, s, 0, rename(root, "a", dirA, "b"), api.Inside)
	fails(t, s, 0, rename(root, "f", dirA, "b"), api.Taken)
	fails(t, s, 0, rename(root, "f", root, "f"), api.Taken)
	fails(t, s, 0, rename(root, "n", dirA, "n"), api.NotThere)
	fails(t, s, 0, rename(fileB, "f", root, "n"), api.NoFolder)
	fails(t, s, 0, rename(root, "f", fileB, "n"), api.NoFolder)
	fails(t, changed(s, func(s *api.State) { s.Inodes[0].Next = api.MaxBig }), 0, rename(dirA, "g", root, "n"), api.NoRoom)
}

// TestNames: what is no name, wherever one is asked for.
func TestNames(t *testing.T) {
	for _, s := range badNames() {
		for _, c := range []api.Call{look(root, s), mk(root, s), mkdir(root, s), link(fileB, root, s), unlink(root, s), rmdir(root, s), rename(root, s, root, "n"), rename(root, "f", root, s), rename(root, s, at(9, 9), "/")} {
			fails(t, some(), 5, c, api.BadName)
		}
	}
	longest := strings.Repeat("x", api.MaxName)
	s, made := try(t, some(), 5, mk(root, longest), api.OK)
	if _, r := try(t, s, 5, look(root, longest), api.OK); r.H != made.H {
		t.Errorf("Look of a longest name: %v", r)
	}
}

// TestStale: what is no handle of anything, wherever one is asked for.
func TestStale(t *testing.T) {
	for _, h := range stales() {
		for _, c := range []api.Call{
			look(h, "a"), look(h, "/"), attrCall(h), mk(h, "n"), mk(h, "/"), mkdir(h, "n"), mkdir(h, "/"), read(h, 0, 1), read(h, 1<<32-1, 65535),
			write(h, 0, "x"), write(h, api.MaxSize, "x"), write(h, 0, bytes(513)), write(h, 0, ""), cut(h, 0), cut(h, api.MaxSize+1), link(h, root, "n"), link(h, fileB, "/"), link(fileB, h, "n"), link(fileB, h, "/"),
			unlink(h, "f"), unlink(h, "/"), rmdir(h, "a"), rmdir(h, "/"), rename(h, "f", root, "n"), rename(h, "/", root, "/"), rename(root, "f", h, "n"), rename(root, "f", h, "/"), list(h, 0, 1), openCall(h),
		} {
			fails(t, some(), 5, c, api.Stale)
		}
		fails(t, changed(some(), opened(append(upTo(15), open(15, 5, orphan))...)), 5, openCall(h), api.Stale)
	}
}
