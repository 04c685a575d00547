package nfs

import (
	"math"
	"reflect"
	"slices"
	"strings"
	"testing"

	"sexton/api"
	"sexton/itab"
)

// TestStamps: which inodes have the stamp behind a call, and that no other's is changed.
func TestStamps(t *testing.T) {
	for i, c := range []struct {
		call  api.Call
		stamp []int
	}{
		{look(root, "a"), nil}, {attrCall(fileB), nil}, {read(fileB, 0, 9), nil}, {list(root, 0, 9), nil}, {openCall(fileB), nil}, {closeCall(0), nil}, {closeCall(1), nil},
		{mk(dirC, "n"), []int{3, 4}}, {mkdir(root, "n"), []int{0, 4}},
		{write(fileB, 0, "x"), []int{2}}, {write(fileB, 9, "cde"), []int{2}}, {write(fileB, 0, ""), nil}, {write(orphan, 0, "x"), []int{5}},
		{cut(fileB, 3), []int{2}}, {cut(fileB, 15), []int{2}}, {cut(fileG, 0), []int{7}},
		{link(fileB, dirE, "n"), []int{2, 6}}, {link(orphan, root, "n"), []int{0, 5}},
		{unlink(root, "f"), []int{0, 2}}, {unlink(dirA, "g"), []int{1}}, {rmdir(dirC, "e"), []int{3}},
		{rename(root, "f", dirE, "f"), []int{0, 6}}, {rename(dirA, "c", root, "c"), []int{0, 1}}, {rename(root, "a", root, "n"), []int{0}},
		{write(dirE, 0, "x"), nil}, {cut(fileB, api.MaxSize+1), nil}, {mk(root, "f"), nil}, {rename(root, "f", dirA, "b"), nil}, {api.Call{}, nil},
	} {
		before := some()
		s, _ := Do(before, 5, c.call)
		if s.Done != now {
			t.Errorf("call %d: Done %d", i, s.Done)
		}
		for no, x := range s.Inodes {
			w := before.Inodes[no].Attr.Stamp
			switch {
			case slices.Contains(c.stamp, no):
				w = now
			case x.Attr.Kind == api.KindFree:
				w = 0
			}
			if x.Attr.Stamp != w {
				t.Errorf("call %d: inode %d has the stamp %d; want %d", i, no, x.Attr.Stamp, w)
			}
		}
	}
}

// spoil changes all that can be got at in a state and a reply, spare room too.
func spoil(s api.State, r api.Reply) {
	for _, x := range s.Inodes {
		for i := range x.Runs[:cap(x.Runs)] {
			x.Runs[:cap(x.Runs)][i] = run(-7, "spoilt")
		}
		spoilEntries(x.Entries)
	}
	for i := range s.Inodes[:cap(s.Inodes)] {
		s.Inodes[:cap(s.Inodes)][i] = free(-7)
	}
	for i := range s.Opens[:cap(s.Opens)] {
		s.Opens[:cap(s.Opens)][i] = open(-7, -7, at(-7, -7))
	}
	for i := range s.Seats[:cap(s.Seats)] {
		s.Seats[:cap(s.Seats)][i] = api.Seat{Client: -7}
	}
	spoilEntries(r.Entries)
}

func spoilEntries(l []api.Entry) {
	for i := range l[:cap(l)] {
		l[:cap(l)][i] = entry("spoilt", -7, at(-7, -7))
	}
}

// roomy is a state with all its spare room.
func roomy(s api.State) api.State {
	s = api.State{Inodes: slices.Clone(s.Inodes[:cap(s.Inodes)]), Opens: s.Opens[:cap(s.Opens)], Seats: s.Seats[:cap(s.Seats)], Done: s.Done}
	for i, x := range s.Inodes {
		s.Inodes[i].Runs, s.Inodes[i].Entries = x.Runs[:cap(x.Runs)], x.Entries[:cap(x.Entries)]
	}
	return plain(s)
}

// TestMemory: what is handed in is not changed, spare room too, and a reply is new memory. (States may share what was not changed.)
func TestMemory(t *testing.T) {
	more := []api.Call{
		write(orphan, 9, "x"), write(fileB, 0, ""), cut(fileB, 99), link(orphan, dirA, "n"), unlink(root, "f"), unlink(dirA, "b"), rename(dirA, "b", dirA, "n"), rename(dirA, "c", root, "c"),
		closeCall(0), openCall(orphan), list(dirA, 0, 1), list(dirA, 1, 64), mk(dirA, "b"), write(root, 0, "x"), closeCall(9), {},
	}
	for _, c := range append(every(), more...) {
		s := some()
		x, r := Do(s, 5, c)
		if !same(roomy(s), roomy(some())) {
			t.Errorf("%v changes what it is handed: %v", c, s)
		}
		keptState, kept := plain(x), r
		kept.Entries = slices.Clone(r.Entries)
		spoilEntries(r.Entries)
		if !same(roomy(s), roomy(some())) || !same(x, keptState) {
			t.Errorf("%v: the reply is not new", c)
		}
		if y, again := Do(s, 5, c); !same(y, keptState) || !reflect.DeepEqual(again, kept) {
			t.Errorf("%v tells %v, and then %v", c, kept, again)
		}
		_, r = Do(s, 5, c)
		spoil(s, api.Reply{})
		if !reflect.DeepEqual(r, kept) {
			t.Errorf("%v: the reply has what was handed in: %v", c, r)
		}
	}
}

// TestExamples: the chapter's, and those of the whole that a single service can tell.
func TestExamples(t *testing.T) {
	s, a := try(t, New(), 3, mk(root, "a"), api.OK)
	if a.H != at(1, 1) {
		t.Errorf("Make: %v", a)
	}
	s, o := try(t, s, 3, openCall(a.H), api.OK)
	if o.N != 0 {
		t.Errorf("Open: %v", o)
	}
	s, _ = try(t, s, 3, unlink(root, "a"), api.OK)
	s, _ = try(t, s, 3, write(a.H, 0, "x"), api.OK)
	want(t, s, 3, read(a.H, 0, 1), api.Reply{Data: "x"})
	s, _ = try(t, s, 3, closeCall(0), api.OK)
	fails(t, s, 3, read(a.H, 0, 1), api.Stale)

	s, d := try(t, s, 3, mkdir(root, "d"), api.OK)
	fails(t, s, 3, rename(root, "d", d.H, "e"), api.Inside)
}

// 15.4

// readAll are all bytes of a file, by reads.
func readAll(t *testing.T, s api.State, h api.Handle, size int) string {
	t.Helper()
	var b strings.Builder
	for b.Len() < size {
		_, r := try(t, s, 1, read(h, b.Len(), api.MaxWrite), api.OK)
		if r.Data == "" {
			t.Fatalf("%v has no byte at %d", h, b.Len())
		}
		b.WriteString(r.Data)
	}
	return b.String()
}

// TestWrittenIsRead: by each name, and by the handle that was got ahead of the write, of a rename, of a link, of an unlink.
func TestWrittenIsRead(t *testing.T) {
	s, a := try(t, New(), 1, mk(root, "a"), api.OK)
	s, d := try(t, s, 1, mkdir(root, "d"), api.OK)
	s, other := try(t, s, 1, mk(d.H, "other"), api.OK)
	s, _ = try(t, s, 1, link(a.H, d.H, "b"), api.OK)
	s, _ = try(t, s, 1, write(other.H, 0, "other"), api.OK)
	s, viaA := try(t, s, 2, look(root, "a"), api.OK)
	s, viaB := try(t, s, 2, look(d.H, "b"), api.OK)
	s, _ = try(t, s, 2, write(viaA.H, 2, "hello"), api.OK)
	s, _ = try(t, s, 3, write(viaB.H, 5, bytes(512)), api.OK)
	s, _ = try(t, s, 3, write(viaB.H, 2, "J"), api.OK)
	whole := "\x00\x00Jel" + bytes(512)
	tell := func(h api.Handle) {
		t.Helper()
		if got := readAll(t, s, h, len(whole)); got != whole {
			t.Errorf("%v: %q", h, got)
		}
		want(t, s, 9, attrCall(h), api.Reply{Attr: api.Attr{Kind: api.KindFile, Links: s.Inodes[h.No].Attr.Links, Size: len(whole), Stamp: s.Inodes[h.No].Attr.Stamp}})
	}
	tell(a.H)
	tell(viaA.H)
	tell(viaB.H)
	s, _ = try(t, s, 1, rename(d.H, "b", root, "c"), api.OK)
	s, _ = try(t, s, 1, unlink(root, "a"), api.OK)
	s, viaC := try(t, s, 1, look(root, "c"), api.OK)
	tell(viaC.H)
	tell(viaA.H)
	s, _ = try(t, s, 1, openCall(viaC.H), api.OK)
	s, _ = try(t, s, 1, unlink(root, "c"), api.OK)
	tell(viaB.H)
	want(t, s, 9, read(other.H, 0, 99), api.Reply{Data: "other"})
}

// 15.5

// needs are calls of each kind that a file's handle is asked for in, with what they tell while it is there.
func needs(h api.Handle, name string) []api.Call {
	return []api.Call{attrCall(h), read(h, 0, 9), write(h, 1, "new"), cut(h, 2), link(h, root, name), openCall(h)}
}

func TestOrphan(t *testing.T) {
	s := some()
	for _, c := range needs(orphan, "n") {
		try(t, s, 9, c, api.OK)
	}
	x := s
	for _, c := range []api.Call{write(orphan, 2, "Zab"), cut(orphan, 4), write(orphan, 9, "end")} {
		x, _ = try(t, x, 9, c, api.OK)
	}
	want(t, x, 9, read(orphan, 0, 99), api.Reply{Data: "xyZa\x00\x00\x00\x00\x00end"})
	x, _ = try(t, x, 5, closeCall(1), api.OK)
	for _, c := range needs(orphan, "n") {
		fails(t, x, 5, c, api.Stale)
	}
	// Its number is used again; its handle stays stale.
	x, _ = try(t, x, 5, mk(root, "one"), api.OK)
	x, r := try(t, x, 5, mk(root, "two"), api.OK)
	if r.H != at(5, 3) {
		t.Fatalf("Make: %v", r)
	}
	for _, c := range needs(orphan, "n") {
		fails(t, x, 5, c, api.Stale)
	}
	want(t, x, 5, read(r.H, 0, 99), api.Reply{})
}

// TestHeldByTwo: a file without a name stays till the last one that holds it closes it, whoever that is.
func TestHeldByTwo(t *testing.T) {
	for _, clients := range [][2]int{{5, 5}, {5, 7}, {0, api.MaxBig}} {
		for _, order := range [][2]int{{0, 1}, {1, 0}} {
			s, a := try(t, New(), 1, mk(root, "a"), api.OK)
			for _, client := range clients {
				s, _ = try(t, s, client, openCall(a.H), api.OK)
			}
			s, _ = try(t, s, 1, write(a.H, 0, "abc"), api.OK)
			s, _ = try(t, s, 1, unlink(root, "a"), api.OK)
			s, _ = try(t, s, clients[order[0]], closeCall(order[0]), api.OK)
			want(t, s, 1, read(a.H, 0, 9), api.Reply{Data: "abc"})
			s, _ = try(t, s, clients[order[1]], closeCall(order[1]), api.OK)
			for _, c := range needs(a.H, "n") {
				fails(t, s, 1, c, api.Stale)
			}
		}
	}
}

// TestNamedAgain: a file that gets a name while it has none stays when it is closed.
func TestNamedAgain(t *testing.T) {
	s, _ := try(t, some(), 9, link(orphan, dirE, "o"), api.OK)
	s, _ = try(t, s, 5, closeCall(1), api.OK)
	want(t, s, 9, read(orphan, 0, 9), api.Reply{Data: "xyz"})
	s, _ = try(t, s, 9, unlink(dirE, "o"), api.OK)
	fails(t, s, 9, read(orphan, 0, 9), api.Stale)
	// One of two names is gone, then it is closed, then the other one is gone.
	s, _ = try(t, some(), 9, unlink(root, "f"), api.OK)
	s, _ = try(t, s, 5, closeCall(0), api.OK)
	s, _ = try(t, s, 7, closeCall(3), api.OK)
	try(t, s, 9, read(fileB, 0, 9), api.OK)
	s, _ = try(t, s, 9, unlink(dirA, "b"), api.OK)
	fails(t, s, 9, read(fileB, 0, 9), api.Stale)
}

// without are states like some in which something has no room left, by what it is.
func without() map[string]api.State {
	noInode := changed(some(), inode(4, free(api.MaxBig)))
	for no := 8; no < api.MaxInodes; no++ {
		inode(no, free(api.MaxBig))(&noInode)
	}
	next := func(no int) api.State {
		return changed(some(), func(s *api.State) { s.Inodes[no].Next = api.MaxBig })
	}
	return map[string]api.State{
		"nothing": some(),
		"inodes":  noInode,
		"root":    next(0),
		"folder":  next(1),
		"bytes":   changed(some(), inode(7, file(1, 1, 8184, 0, run(0, bytes(api.MaxBytes-8))))),
		"opens":   changed(some(), opened(append(upTo(15), open(15, 5, orphan))...)),
	}
}

// handles are handles of each kind in some, and such that name nothing.
func handles() []api.Handle {
	return []api.Handle{root, dirA, dirC, dirE, fileB, fileG, orphan, at(4, 7), at(1, 2), at(255, 1), at(256, 1)}
}

// byNames are calls of all kinds that names are asked for in, with all arguments.
func byNames() []api.Call {
	names := []string{"a", "b", "c", "e", "f", "n", "", "a/b", strings.Repeat("x", 256)}
	var out []api.Call
	for _, h := range handles() {
		for _, name := range names {
			out = append(out, look(h, name), mk(h, name), mkdir(h, name), unlink(h, name), rmdir(h, name))
			for _, k := range handles() {
				out = append(out, link(k, h, name))
				for _, name2 := range names {
					out = append(out, rename(h, name, k, name2))
				}
			}
		}
	}
	return out
}

// byNumbers are calls of all other kinds, with all arguments.
func byNumbers() []api.Call {
	var out []api.Call
	for _, h := range handles() {
		for _, place := range []int{0, 1, 3, 9, 15, api.MaxSize - 512, api.MaxSize - 1, api.MaxSize, api.MaxSize + 1, 1<<32 - 1, 1 << 32} {
			for _, n := range []int{0, 1, 5, 512, 513, 65535, 65536} {
				out = append(out, read(h, place, n), list(h, place, n))
			}
			for _, n := range []int{0, 1, 5, 512, 513, 1024, 1025} {
				out = append(out, write(h, place, bytes(n)))
			}
			out = append(out, cut(h, place))
		}
		out = append(out, attrCall(h), openCall(h), closeCall(h.No), api.Call{Kind: h.No - 2, H: h})
	}
	return out
}

// TestOrder: of several faults the one that the chapter names first is told; and what is told besides, at all arguments.
func TestOrder(t *testing.T) {
	told := map[[2]int]int{}
	hold := func(s api.State, l []api.Call) {
		for _, c := range l {
			m := load(s)
			r := m.do(5, c)
			x, got := Do(s, 5, c)
			if len(got.Entries) == 0 {
				got.Entries = nil
			}
			if !reflect.DeepEqual(got, r) || !same(x, m.state()) || Check(x) != api.OK {
				t.Fatalf("%.300v of %.1000v: %.1000v, %.300v; want %.1000v, %.300v", c, s, x, got, m.state(), r)
			}
			told[[2]int{c.Kind, int(r.E)}]++
		}
	}
	l := without()
	for _, what := range []string{"nothing", "inodes", "root", "folder"} {
		hold(l[what], byNames())
	}
	for _, what := range []string{"nothing", "bytes", "opens"} {
		hold(l[what], byNumbers())
	}
	for kind, es := range map[int][]api.Errno{
		0:              {api.BadCall},
		api.CallLook:   {api.OK, api.BadCall, api.Stale, api.NoFolder, api.BadName, api.NotThere},
		api.CallAttr:   {api.OK, api.BadCall, api.Stale},
		api.CallMake:   {api.OK, api.BadCall, api.Stale, api.NoFolder, api.BadName, api.Taken, api.NoRoom},
		api.CallFolder: {api.OK, api.BadCall, api.Stale, api.NoFolder, api.BadName, api.Taken, api.NoRoom},
		api.CallRead:   {api.OK, api.BadCall, api.Stale, api.Folder},
		api.CallWrite:  {api.OK, api.BadCall, api.Stale, api.Folder, api.TooFar, api.NoRoom},
		api.CallCut:    {api.OK, api.BadCall, api.Stale, api.Folder, api.TooFar},
		api.CallLink:   {api.OK, api.BadCall, api.Stale, api.Folder, api.NoFolder, api.BadName, api.Taken, api.NoRoom},
		api.CallUnlink: {api.OK, api.BadCall, api.Stale, api.NoFolder, api.BadName, api.NotThere, api.Folder},
		api.CallRmdir:  {api.OK, api.BadCall, api.Stale, api.NoFolder, api.BadName, api.NotThere, api.Occupied},
		api.CallRename: {api.OK, api.BadCall, api.Stale, api.NoFolder, api.BadName, api.NotThere, api.Inside, api.Taken, api.NoRoom},
		api.CallList:   {api.OK, api.BadCall, api.Stale, api.NoFolder},
		api.CallOpen:   {api.OK, api.BadCall, api.Stale, api.Folder, api.NoRoom},
		api.CallClose:  {api.OK, api.NotOpen},
	} {
		for _, e := range es {
			if told[[2]int{kind, int(e)}] == 0 {
				t.Errorf("calls of kind %d: none tells %v", kind, e)
			}
		}
	}
}

// TestTotal: every call ends, none panics (P1); of a right state a right one comes, of another one nothing.
func TestTotal(t *testing.T) {
	odd := []int{math.MinInt, -1, 0, 1, 7, 24, 255, 256, api.MaxSize, api.MaxBig, math.MaxInt}
	for _, s := range append(rightStates(), wrongStates()...) {
		right := Check(s)
		for kind := -1; kind <= api.CallClose+1; kind++ {
			for i, n := range odd {
				m := odd[(i+kind+1)%len(odd)]
				c := api.Call{Kind: kind, H: at(n, m), H2: at(m, n), Name: "a", Name2: bytes(i * 30), At: m, N: n, Data: bytes(i * 100)}
				for _, c := range []api.Call{c, {Kind: kind, H: at(max(min(n, 255), 0), 1), H2: root, Name: "a", Name2: "b", At: i, N: i}} {
					x, r := Do(s, []int{0, m}[i%2], c)
					if Check(x) != right || right != api.OK && (r.E != api.ErrForm || !same(x, s)) || right == api.OK && r.E == api.ErrForm {
						t.Fatalf("Do(%.1000v, %.300v): %.1000v, %.300v", s, c, x, r)
					}
				}
			}
		}
		if got := itab.Bytes(s.Inodes); right == api.OK && got > api.MaxBytes {
			t.Errorf("a right state of %d bytes", got)
		}
	}
}
