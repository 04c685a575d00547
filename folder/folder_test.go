package folder

import (
	"math"
	"slices"
	"strconv"
	"strings"
	"testing"

	"sexton/api"
)

func at(no, gen int) api.Handle { return api.Handle{No: no, Gen: gen} }

func entry(name string, cookie int) api.Entry {
	return api.Entry{Name: name, Cookie: cookie, To: at(1, 2)}
}

func dir(next int, l ...api.Entry) Dir { return Dir{Entries: l, Next: next} }

func same(a, b Dir) bool { return a.Next == b.Next && slices.Equal(a.Entries, b.Entries) }

// spoil changes all that can be got at in a list, spare room too.
func spoil(l []api.Entry) {
	for i := range l[:cap(l)] {
		l[:cap(l)][i] = api.Entry{Name: "spoilt", Cookie: -7}
	}
}

// some is a folder of four, new each time, with spare room behind.
func some() Dir {
	l := make([]api.Entry, 0, 9)
	return dir(9, append(l, entry("a", 1), entry("c", 3), entry("b", 4), entry("e", 8))...)
}

func rightNames() []string {
	l := []string{
		"a", "ab", "A", " ", "\t", "\n", "\\", "-", "0", "*", "\x01", "\x7f", "\x80", "\xff", "\xfe\xff", "\xc0\xaf", "\xc0\x80", "\xe4", "\xe4a", "a\xf0\x9f",
		"ä", "漢字", "\u2215", "\uff0f", "\U0001f600", "\u0100", "\u012f",
		"...", "....", ".a", "..a", "a.", "a..", ". ", ".. ", " .", "._", "..\n",
		strings.Repeat("x", api.MaxName-1), strings.Repeat("x", api.MaxName), strings.Repeat(".", api.MaxName),
		strings.Repeat("ä", api.MaxName/2), strings.Repeat("\xff", api.MaxName),
	}
	for b := 1; b < 256; b++ {
		if b != '/' && b != '.' {
			l = append(l, string([]byte{byte(b)}), string([]byte{'q', byte(b), 0xe2}))
		}
	}
	return l
}

func wrongNames() []string {
	return []string{
		"", ".", "..", "/", "\x00", "//", "/a", "a/", "a/b", "\x00a", "a\x00", "a\x00b", "./", "../", "/.", "/..", "..\x00",
		"\xe4/", "\xe4\x00", "\xf0\x9f/\x98", "\xc3/", "\xff\x00\xff", "ä/", "漢\x00",
		strings.Repeat("x", api.MaxName+1), strings.Repeat("x", 1000), strings.Repeat("ä", api.MaxName/2) + "x", strings.Repeat("ä", api.MaxName),
		strings.Repeat("x", api.MaxName-1) + "/", strings.Repeat("x", api.MaxName-1) + "\x00", "/" + strings.Repeat("x", api.MaxName-1),
	}
}

func rightTos() []api.Handle {
	return []api.Handle{at(0, 1), at(1, 2), at(api.MaxInodes-1, 1), at(0, api.MaxBig), at(api.MaxInodes-1, api.MaxBig)}
}

func wrongTos() []api.Handle {
	return []api.Handle{
		{}, at(-1, 1), at(math.MinInt, 1), at(api.MaxInodes, 1), at(math.MaxInt, 1),
		at(0, 0), at(0, -1), at(0, math.MinInt), at(0, api.MaxBig+1), at(0, math.MaxInt), at(-1, 0),
	}
}

// rightDirs are right folders, those at the edges among them.
func rightDirs() []Dir {
	l := []Dir{
		{}, {Entries: []api.Entry{}}, dir(1), dir(api.MaxBig), some(),
		dir(1, entry("a", 1)), dir(2, entry("a", 1)), dir(2, entry("a", 2)), dir(2, entry("b", 1), entry("a", 2)),
		dir(api.MaxBig, entry("a", api.MaxBig)), dir(api.MaxBig, entry("a", 1), entry("b", api.MaxBig-1), entry("c", api.MaxBig)),
		dir(2, entry("a", 1), entry("A", 2)), dir(3, entry("a", 1), entry("a ", 2), entry("aa", 3)),
	}
	for _, name := range rightNames() {
		l = append(l, dir(2, entry(name, 2)))
	}
	for _, to := range rightTos() {
		l = append(l, dir(2, api.Entry{Name: "a", Cookie: 1, To: to}, api.Entry{Name: "b", Cookie: 2, To: to}))
	}
	return append(l, long(300))
}

// long is a folder of n entries.
func long(n int) Dir {
	d := Dir{Next: n}
	for i := range n {
		d.Entries = append(d.Entries, entry("n"+strconv.Itoa(i), i+1))
	}
	return d
}

// wrongDirs are folders that are not right, each for one reason.
func wrongDirs() []Dir {
	l := []Dir{
		dir(-1), dir(math.MinInt), dir(api.MaxBig + 1), dir(math.MaxInt),
		dir(9, entry("a", 1), entry("a", 2)), dir(9, entry("a", 1), entry("b", 2), entry("a", 3)), dir(9, entry("b", 1), entry("a", 2), entry("a", 9)),
		dir(9, entry("a", 0)), dir(9, entry("a", -1)), dir(9, entry("a", math.MinInt)), dir(9, entry("a", 0), entry("b", 1)),
		dir(9, entry("a", 2), entry("b", 2)), dir(9, entry("a", 2), entry("b", 1)), dir(9, entry("a", 1), entry("b", 3), entry("c", 2)),
		dir(9, entry("a", 10)), dir(9, entry("a", 1), entry("b", 10)), dir(0, entry("a", 1)), dir(9, entry("a", math.MaxInt)),
		dir(9, entry("a", 9), entry("b", 10)), dir(api.MaxBig, entry("a", api.MaxBig+1)), dir(api.MaxBig, entry("a", api.MaxBig), entry("b", api.MaxBig)),
		dir(math.MaxInt, entry("a", math.MaxInt), entry("b", math.MinInt)), dir(-1, entry("a", -1)),
	}
	for _, name := range wrongNames() {
		l = append(l, dir(9, entry(name, 1)), dir(9, entry("a", 1), entry(name, 2)), dir(9, entry(name, 1), entry("a", 2)))
	}
	for _, to := range wrongTos() {
		l = append(l, dir(9, api.Entry{Name: "a", Cookie: 1, To: to}), dir(9, entry("a", 1), api.Entry{Name: "b", Cookie: 2, To: to}))
	}
	d := long(300)
	d.Entries[299].Name = "n0"
	return append(l, d)
}

func wantFind(t *testing.T, d Dir, name string, want api.Entry, wantE api.Errno) {
	t.Helper()
	if x, e := Find(d, name); x != want || e != wantE {
		t.Errorf("Find(%v, %q): %v, %v; want %v, %v", d, name, x, e, want, wantE)
	}
}

func wantAdd(t *testing.T, d Dir, name string, to api.Handle, want Dir, wantE api.Errno) Dir {
	t.Helper()
	x, e := Add(d, name, to)
	if !same(x, want) || e != wantE {
		t.Errorf("Add(%v, %q, %v): %v, %v; want %v, %v", d, name, to, x, e, want, wantE)
	}
	return x
}

func wantRemove(t *testing.T, d Dir, name string, want Dir, wantE api.Errno) Dir {
	t.Helper()
	x, e := Remove(d, name)
	if !same(x, want) || e != wantE {
		t.Errorf("Remove(%v, %q): %v, %v; want %v, %v", d, name, x, e, want, wantE)
	}
	return x
}

func wantPage(t *testing.T, d Dir, cookie, most int, want []api.Entry, wantE api.Errno) {
	t.Helper()
	if l, e := Page(d, cookie, most); !slices.Equal(l, want) || e != wantE {
		t.Errorf("Page(%v, %d, %d): %v, %v; want %v, %v", d, cookie, most, l, e, want, wantE)
	}
}

// 10.1

func TestName(t *testing.T) {
	for _, s := range rightNames() {
		if e := Name(s); e != api.OK {
			t.Errorf("Name(%q): %v", s, e)
		}
	}
	for _, s := range wrongNames() {
		if e := Name(s); e != api.BadName {
			t.Errorf("Name(%q): %v", s, e)
		}
	}
}

func TestCheck(t *testing.T) {
	for _, d := range rightDirs() {
		if e := Check(d); e != api.OK {
			t.Errorf("Check(%v): %v", d, e)
		}
	}
	for _, d := range wrongDirs() {
		if e := Check(d); e != api.ErrForm {
			t.Errorf("Check(%v): %v", d, e)
		}
	}
}

// 10.2

func TestFind(t *testing.T) {
	d := some()
	for _, x := range d.Entries {
		wantFind(t, d, x.Name, x, api.OK)
	}
	for _, s := range []string{"d", "A", "aa", "a ", "...", "ä", "\xff"} {
		wantFind(t, d, s, api.Entry{}, api.NotThere)
		wantFind(t, Dir{}, s, api.Entry{}, api.NotThere)
	}
	for _, s := range wrongNames() {
		wantFind(t, d, s, api.Entry{}, api.BadName)
	}
	long := long(300)
	wantFind(t, long, "n299", entry("n299", 300), api.OK)
}

func TestAdd(t *testing.T) {
	for _, to := range rightTos() {
		wantAdd(t, Dir{}, "a", to, dir(1, api.Entry{Name: "a", Cookie: 1, To: to}), api.OK)
		x := api.Entry{Name: "q", Cookie: 10, To: to}
		wantAdd(t, some(), "q", to, dir(10, append(some().Entries, x)...), api.OK)
	}
	for _, name := range rightNames() {
		if name != "a" {
			wantAdd(t, dir(5, entry("a", 2)), name, at(1, 2), dir(6, entry("a", 2), entry(name, 6)), api.OK)
		}
	}
	wantAdd(t, dir(api.MaxBig-1), "a", at(1, 2), dir(api.MaxBig, entry("a", api.MaxBig)), api.OK)
}

func TestAddWrong(t *testing.T) {
	for _, name := range wrongNames() {
		wantAdd(t, some(), name, at(1, 2), Dir{}, api.BadName)
	}
	for _, to := range wrongTos() {
		wantAdd(t, some(), "q", to, Dir{}, api.ErrArg)
	}
	for _, x := range some().Entries {
		wantAdd(t, some(), x.Name, at(5, 5), Dir{}, api.Taken)
		wantAdd(t, some(), x.Name, x.To, Dir{}, api.Taken)
	}
	wantAdd(t, dir(api.MaxBig), "a", at(1, 2), Dir{}, api.NoRoom)
	wantAdd(t, dir(api.MaxBig, entry("a", 1)), "b", at(1, 2), Dir{}, api.NoRoom)
}

func TestRemove(t *testing.T) {
	for i, x := range some().Entries {
		want := dir(9, slices.Delete(some().Entries, i, i+1)...)
		d := wantRemove(t, some(), x.Name, want, api.OK)
		wantRemove(t, d, x.Name, Dir{}, api.NotThere)
	}
	wantRemove(t, dir(1, entry("a", 1)), "a", dir(1), api.OK)
	wantRemove(t, dir(api.MaxBig, entry("a", api.MaxBig)), "a", dir(api.MaxBig), api.OK)
	wantRemove(t, Dir{}, "a", Dir{}, api.NotThere)
	wantRemove(t, some(), "q", Dir{}, api.NotThere)
	for _, name := range wrongNames() {
		wantRemove(t, some(), name, Dir{}, api.BadName)
	}
}

// 10.3

func TestPage(t *testing.T) {
	d := some()
	for _, cookie := range []int{0, 1, 2, 3, 4, 5, 7, 8, 9, 10, api.MaxBig, api.MaxBig + 1, math.MaxInt} {
		var behind []api.Entry
		for _, x := range d.Entries {
			if x.Cookie > cookie {
				behind = append(behind, x)
			}
		}
		for _, most := range []int{1, 2, 3, 4, 5, 63, 64} {
			wantPage(t, d, cookie, most, behind[:min(most, len(behind))], api.OK)
			wantPage(t, Dir{}, cookie, most, nil, api.OK)
		}
	}
	l := long(300)
	wantPage(t, l, 0, 64, l.Entries[:64], api.OK)
	wantPage(t, l, 64, 64, l.Entries[64:128], api.OK)
	wantPage(t, l, 235, 64, l.Entries[235:299], api.OK)
	wantPage(t, l, 236, 64, l.Entries[236:], api.OK)
	wantPage(t, l, 237, 64, l.Entries[237:], api.OK)
	wantPage(t, l, 150, 1, l.Entries[150:151], api.OK)
}

func TestPageArguments(t *testing.T) {
	for _, d := range []Dir{{}, some()} {
		for _, cookie := range []int{-1, -2, math.MinInt} {
			wantPage(t, d, cookie, 1, nil, api.ErrArg)
		}
		for _, most := range []int{math.MinInt, -1, 0, 65, 66, math.MaxInt} {
			wantPage(t, d, 0, most, nil, api.ErrArg)
			wantPage(t, d, 99, most, nil, api.ErrArg)
		}
	}
}

// TestOrder: of several faults the one that the chapter names first is told.
func TestOrder(t *testing.T) {
	for _, d := range wrongDirs() {
		for _, name := range []string{"a", "q", "", ".."} {
			wantFind(t, d, name, api.Entry{}, api.ErrForm)
			wantAdd(t, d, name, at(1, 2), Dir{}, api.ErrForm)
			wantAdd(t, d, name, api.Handle{}, Dir{}, api.ErrForm)
			wantRemove(t, d, name, Dir{}, api.ErrForm)
		}
		wantPage(t, d, 0, 1, nil, api.ErrForm)
		wantPage(t, d, -1, 0, nil, api.ErrForm)
	}
	full := dir(api.MaxBig, entry("a", 1))
	wantAdd(t, full, "..", api.Handle{}, Dir{}, api.BadName)
	wantAdd(t, full, "..", at(1, 2), Dir{}, api.BadName)
	wantAdd(t, full, "a", api.Handle{}, Dir{}, api.ErrArg)
	wantAdd(t, full, "b", api.Handle{}, Dir{}, api.ErrArg)
	wantAdd(t, full, "a", at(1, 2), Dir{}, api.Taken)
}

func TestExample(t *testing.T) {
	var d Dir
	for _, name := range []string{"a", "b", "c"} {
		d, _ = Add(d, name, at(1, 2))
	}
	d = wantRemove(t, d, "b", dir(3, entry("a", 1), entry("c", 3)), api.OK)
	d = wantAdd(t, d, "b", at(1, 2), dir(4, entry("a", 1), entry("c", 3), entry("b", 4)), api.OK)
	wantPage(t, d, 1, 1, []api.Entry{entry("c", 3)}, api.OK)
}

// TestMemory: what is handed in is neither changed nor kept, and what is told is new.
func TestMemory(t *testing.T) {
	calls := []func(d Dir) []api.Entry{
		func(d Dir) []api.Entry { x, _ := Add(d, "q", at(5, 5)); return x.Entries },
		func(d Dir) []api.Entry { x, _ := Remove(d, "a"); return x.Entries },
		func(d Dir) []api.Entry { x, _ := Remove(d, "c"); return x.Entries },
		func(d Dir) []api.Entry { x, _ := Remove(d, "e"); return x.Entries },
		func(d Dir) []api.Entry { l, _ := Page(d, 0, 64); return l },
		func(d Dir) []api.Entry { l, _ := Page(d, 1, 2); return l },
	}
	for i, call := range calls {
		d := some()
		first := call(d)
		if len(first) == 0 || !slices.Equal(d.Entries[:cap(d.Entries)], some().Entries[:cap(d.Entries)]) {
			t.Errorf("call %d changes what it is handed: %v", i, d)
		}
		kept := slices.Clone(first)
		spoil(first)
		if !same(d, some()) || !slices.Equal(call(d), kept) {
			t.Errorf("call %d: what is told is not new", i)
		}
		again := call(d)
		spoil(d.Entries)
		if !slices.Equal(again, kept) {
			t.Errorf("call %d keeps what it is handed: %v", i, again)
		}
	}
}

// 10.4

// TestModel: what was added is found until it is removed.
func TestModel(t *testing.T) {
	var d Dir
	model := map[string]api.Entry{}
	x, next := 1, 0
	for range 5000 {
		x = x * 48271 % (1<<31 - 1)
		name, to := "n"+strconv.Itoa(x>>8%40), at(x>>5%api.MaxInodes, x%1000+1)
		old, there := model[name]
		if x>>3%2 == 0 {
			y, e := Add(d, name, to)
			if there != (e == api.Taken) || there == (e == api.OK) {
				t.Fatalf("Add(%q), which is %v: %v", name, old, e)
			}
			if !there {
				next++
				d, model[name] = y, api.Entry{Name: name, Cookie: next, To: to}
			}
		} else {
			y, e := Remove(d, name)
			if there != (e == api.OK) || there == (e == api.NotThere) {
				t.Fatalf("Remove(%q), which is %v: %v", name, old, e)
			}
			if there {
				d = y
				delete(model, name)
			}
		}
		agree(t, d, model, next)
	}
}

// agree holds a folder against what it should be.
func agree(t *testing.T, d Dir, model map[string]api.Entry, next int) {
	t.Helper()
	if Check(d) != api.OK || d.Next != next || len(d.Entries) != len(model) {
		t.Fatalf("folder: %v; want %v", d, model)
	}
	for i := range 40 {
		name := "n" + strconv.Itoa(i)
		x, e := Find(d, name)
		want, there := model[name]
		if x != want || there != (e == api.OK) || there == (e == api.NotThere) {
			t.Fatalf("Find(%q): %v, %v; want %v", name, x, e, want)
		}
	}
}

// 10.5

// TestPages: names come and go between the pages; each that stays is told once.
func TestPages(t *testing.T) {
	x := 1
	for round := range 300 {
		var d Dir
		for i := range 40 {
			d, _ = Add(d, "n"+strconv.Itoa(i), at(1, 2))
		}
		stays := map[string]int{}
		for i := 0; i < 40; i += 3 {
			stays["n"+strconv.Itoa(i)] = 0
		}
		cookie := 0
		for {
			p, e := Page(d, cookie, 1+round%9)
			if e != api.OK {
				t.Fatal(e)
			}
			if len(p) == 0 {
				break
			}
			for _, y := range p {
				stays[y.Name]++
			}
			cookie = p[len(p)-1].Cookie
			// Fewer come than go, so that the pages end.
			for i := range 4 {
				x = x * 48271 % (1<<31 - 1)
				if name := "n" + strconv.Itoa(x>>6%40); x>>6%40%3 != 0 {
					if y, e := Remove(d, name); e == api.OK {
						d = y
					} else if y, e := Add(d, name, at(1, 2)); e == api.OK && i%2 == 0 && d.Next < 80 {
						d = y
					}
				}
			}
		}
		for i := 0; i < 40; i += 3 {
			if name := "n" + strconv.Itoa(i); stays[name] != 1 {
				t.Fatalf("round %d: %q is told %d times", round, name, stays[name])
			}
		}
	}
}

// TestPageBehindWhatIsGone: a page goes on behind the cookie of an entry that was removed.
func TestPageBehindWhatIsGone(t *testing.T) {
	d := wantRemove(t, some(), "c", dir(9, entry("a", 1), entry("b", 4), entry("e", 8)), api.OK)
	wantPage(t, d, 3, 2, []api.Entry{entry("b", 4), entry("e", 8)}, api.OK)
	// A name that is removed and added again is another entry, behind all others.
	d = wantAdd(t, d, "c", at(1, 2), dir(10, entry("a", 1), entry("b", 4), entry("e", 8), entry("c", 10)), api.OK)
	wantPage(t, d, 8, 2, []api.Entry{entry("c", 10)}, api.OK)
}

// TestTotal: every call ends, none panics, and what is answered without an error is right (P1).
func TestTotal(t *testing.T) {
	odd := []int{math.MinInt, -1, 0, 1, 23, 24, 64, 65, api.MaxBig, api.MaxBig + 1, math.MaxInt}
	for _, d := range append(rightDirs(), wrongDirs()...) {
		right := Check(d) == api.OK
		for _, name := range []string{"", "a", "..", "b", "\xff", "n0"} {
			for _, n := range odd {
				x, e := Add(d, name, at(n, n))
				y, f := Remove(d, name)
				_, g := Find(d, name)
				l, k := Page(d, n, n)
				for i, e := range []api.Errno{e, f, g, k} {
					if right == (e == api.ErrForm) {
						t.Fatalf("call %d of %v: %v", i, d, e)
					}
				}
				if Check(x) != api.OK || Check(y) != api.OK || len(l) > 64 {
					t.Fatalf("of %v: %v, %v, %v", d, x, y, l)
				}
			}
		}
	}
}
