package nfs

import (
	"reflect"
	"slices"
	"testing"

	"sexton/api"
	"sexton/itab"
	"sexton/opens"
)

// walker does calls to a state by a rule of numbers, each held against what a model does.
type walker struct {
	s    api.State
	m    *model
	x    int
	did  map[[2]int]int
	gone []api.Handle
}

func newWalker(x int) *walker {
	return &walker{s: New(), m: load(New()), x: x, did: map[[2]int]int{}}
}

// restart begins with an empty state again.
func (w *walker) restart() { w.s, w.m, w.gone = New(), load(New()), nil }

// below is the next number of the rule, below n.
func (w *walker) below(n int) int {
	w.x = w.x * 48271 % (1<<31 - 1)
	return w.x >> 4 % (1 << 20) % n
}

// handle is that of an inode; now and then of one that is gone.
func (w *walker) handle() api.Handle {
	if len(w.gone) > 0 && w.below(15) == 0 {
		return w.gone[w.below(len(w.gone))]
	}
	used := itab.Used(w.s.Inodes)
	return used[w.below(len(used))]
}

// of is a handle of a kind, mostly.
func (w *walker) of(kind int) api.Handle {
	for range 5 {
		if h := w.handle(); w.m.at(h).attr.Kind == kind {
			return h
		}
	}
	return w.handle()
}

func (w *walker) name() string {
	return []string{"a", "b", "c", "d", "e", "aa", "ä", "\xff", "Z", "."}[w.below(10)]
}

// named is a folder and a name that is there, mostly.
func (w *walker) named() (api.Handle, string) {
	for range 5 {
		h := w.of(api.KindDir)
		if l := w.m.at(h).entries; len(l) > 0 && w.below(8) > 0 {
			return h, l[w.below(len(l))].Name
		}
	}
	return w.of(api.KindDir), w.name()
}

// folderIn is a folder's name in a folder, if there is one; else the name that is handed in.
func (w *walker) folderIn(h api.Handle, name string) string {
	for _, x := range w.m.at(h).entries {
		if w.m.at(x.To).attr.Kind == api.KindDir && w.below(2) == 0 {
			return x.Name
		}
	}
	return name
}

// place is where something is read or written: near the beginning, or near the greatest size.
func (w *walker) place() int {
	if w.below(12) == 0 {
		return api.MaxSize - 600 + w.below(700)
	}
	return w.below(1500)
}

// size is how many bytes are read or written.
func (w *walker) size() int { return []int{0, 1, 7, 60, 300, 511, 512, 513}[w.below(8)] }

// call is the next call of the rule.
func (w *walker) call() api.Call {
	h, name := w.named()
	f, d := w.of(api.KindFile), w.of(api.KindDir)
	switch w.below(18) {
	case 0:
		return look(h, name)
	case 1:
		return attrCall(w.handle())
	case 2, 3:
		return mk(d, w.name())
	case 4:
		return mkdir(d, w.name())
	case 5, 6:
		return read(f, w.place(), w.size())
	case 7, 8, 9:
		return write(f, w.place(), bytes(600)[w.below(20):][:w.size()])
	case 10:
		return cut(f, w.place())
	case 11:
		return link(f, d, w.name())
	case 12:
		return unlink(h, name)
	case 13:
		return rmdir(h, w.folderIn(h, name))
	case 14:
		return rename(h, name, d, w.name())
	case 15:
		return list(d, w.below(30), w.below(70))
	case 16:
		return openCall(f)
	}
	return closeCall(w.below(api.MaxOpens))
}

// client is who makes a call; of a close mostly the one that may.
func (w *walker) client(c api.Call) int {
	if x, ok := w.m.opens[c.N]; c.Kind == api.CallClose && ok && w.below(4) > 0 {
		return x.Client
	}
	return w.below(4)
}

// step does a call, and holds what it answers against the model.
func (w *walker) step(t *testing.T) {
	c := w.call()
	client := w.client(c)
	before := plain(w.s)
	s, r := Do(w.s, client, c)
	if len(r.Entries) == 0 {
		r.Entries = nil
	}
	e := w.m.do(client, c)
	if !reflect.DeepEqual(r, e) || !same(s, w.m.state()) || !same(w.s, before) {
		t.Fatalf("%.300v of %.3000v: %.3000v, %.300v; want %.3000v, %.300v", c, before, s, r, w.m.state(), e)
	}
	// A right state stays right.
	if Check(s) != api.OK || !isRight(s) {
		t.Fatalf("%.300v of %.3000v: %.3000v is not right", c, before, s)
	}
	w.did[[2]int{c.Kind, int(r.E)}]++
	for _, h := range itab.Used(w.s.Inodes) {
		if w.m.at(h).attr.Kind == api.KindFree {
			w.gone = append(w.gone, h)
		}
	}
	w.s = s
}

// tell holds what is read of each file, by each of its names and by its handle, against the model.
func (w *walker) tell(t *testing.T) {
	for _, d := range itab.Used(w.s.Inodes) {
		for _, x := range w.m.at(d).entries {
			if _, r := Do(w.s, 9, look(d, x.Name)); r.E != api.OK || r.H != x.To || r.Attr != w.m.at(x.To).attr {
				t.Fatalf("Look(%v, %q): %v", d, x.Name, r)
			}
		}
		if n := w.m.at(d); n.attr.Kind == api.KindFile {
			for p := 0; p < n.attr.Size && p < 3000; p += api.MaxWrite {
				c := read(d, p, api.MaxWrite)
				if _, r := Do(w.s, 9, c); r.Data != load(w.s).do(9, c).Data {
					t.Fatalf("%v: %v", c, r)
				}
			}
		}
	}
	for _, h := range w.gone {
		if _, r := Do(w.s, 9, attrCall(h)); r.E != api.Stale {
			t.Fatalf("%v, which is gone: %v", h, r)
		}
	}
}

// 15.3, 15.4, 15.5

func TestWalk(t *testing.T) {
	w := newWalker(1)
	orphans, most := 0, 0
	for i := range 10000 {
		if i%1500 == 0 {
			w.restart()
		}
		w.step(t)
		if i%100 == 0 {
			w.tell(t)
		}
		for _, h := range itab.Used(w.s.Inodes) {
			if a := w.m.at(h).attr; a.Links == 0 && opens.Held(w.s.Opens, h) > 0 {
				orphans++
			}
		}
		most = max(most, itab.Bytes(w.s.Inodes))
	}
	if orphans < 1000 || most < api.MaxBytes-100 {
		t.Errorf("files without a name: %d; the most bytes: %d", orphans, most)
	}
	for kind := api.CallLook; kind <= api.CallClose; kind++ {
		if n := w.did[[2]int{kind, int(api.OK)}]; n < 50 {
			t.Errorf("calls of kind %d were done only %d times", kind, n)
		}
	}
	for _, k := range [][2]int{
		{api.CallMake, int(api.NoRoom)}, {api.CallWrite, int(api.NoRoom)}, {api.CallWrite, int(api.TooFar)}, {api.CallCut, int(api.TooFar)}, {api.CallOpen, int(api.NoRoom)},
		{api.CallClose, int(api.NotOpen)}, {api.CallRead, int(api.Stale)}, {api.CallRename, int(api.Inside)}, {api.CallRmdir, int(api.Occupied)}, {api.CallUnlink, int(api.Folder)},
	} {
		if w.did[k] == 0 {
			t.Errorf("calls of kind %d never told %d", k[0], k[1])
		}
	}
}

// bend changes something in a state.
func (w *walker) bend(s api.State) api.State {
	s = plain(s)
	by := w.below(2)*2 - 1
	x := &s.Inodes[w.below(len(s.Inodes))]
	switch w.below(8) {
	case 0:
		x.Gen += by
	case 1:
		x.Attr.Links += by
	case 2:
		x.Attr.Size += by
	case 3:
		x.Attr.Stamp = s.Done + w.below(2)
	case 4:
		s.Done += by * w.below(9)
	case 5:
		if len(x.Runs) > 0 {
			x.Runs[w.below(len(x.Runs))].Data = bytes(w.below(5000))
		}
	case 6:
		s.Opens = append(s.Opens, open(len(s.Opens), w.below(4), w.handle()))
	case 7:
		if len(s.Opens) > 0 {
			i := w.below(len(s.Opens))
			s.Opens = slices.Delete(s.Opens, i, i+1)
		}
	}
	return s
}

// TestBent: what is right, among states that are nearly so; of one that is not, nothing is done.
func TestBent(t *testing.T) {
	w := newWalker(7)
	held := map[api.Errno]int{}
	for i := range 6000 {
		if i%1500 == 0 {
			w.restart()
		}
		w.step(t)
		for _, s := range []api.State{w.bend(w.s), w.bend(w.s), w.bend(w.bend(w.s))} {
			want := api.OK
			if !isRight(s) {
				want = api.ErrForm
			}
			if e := Check(s); e != want {
				t.Fatalf("Check(%.3000v): %v; want %v", s, e, want)
			}
			held[want]++
			if x, r := Do(s, 1, attrCall(root)); want != api.OK && (r.E != want || !same(x, s)) {
				t.Fatalf("Do(%.3000v): %.3000v, %v", s, x, r)
			}
		}
	}
	if held[api.OK] < 1000 || held[api.ErrForm] < 1000 {
		t.Errorf("states: %v", held)
	}
}
