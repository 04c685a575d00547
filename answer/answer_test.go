package answer

import (
	"math"
	"slices"
	"strings"
	"testing"

	"sexton/api"
)

func at(no, gen int) api.Handle { return api.Handle{No: no, Gen: gen} }

func named(name string, cookie int, to api.Handle) api.Entry {
	return api.Entry{Name: name, Cookie: cookie, To: to}
}

// text are n bytes, of which the first and the last are not the same.
func text(n int) string { return strings.Repeat("abcdefghi", n/9+1)[:n] }

// listed are n entries, whose Cookies are the last n up to one.
func listed(n, last int) []api.Entry {
	var l []api.Entry
	for i := range n {
		l = append(l, named(text(i%32+1), last-n+1+i, at(i%256, i)))
	}
	return l
}

// cookies are entries with these Cookies.
func cookies(numbers ...int) []api.Entry {
	var l []api.Entry
	for _, n := range numbers {
		l = append(l, named("a", n, at(1, 1)))
	}
	return l
}

// change is one thing that is done to a reply.
type change func(r *api.Reply)

func errno(e api.Errno) change      { return func(r *api.Reply) { r.E = e } }
func h(x api.Handle) change         { return func(r *api.Reply) { r.H = x } }
func attrs(a api.Attr) change       { return func(r *api.Reply) { r.Attr = a } }
func data(s string) change          { return func(r *api.Reply) { r.Data = s } }
func entries(l ...api.Entry) change { return func(r *api.Reply) { r.Entries = l } }
func count(n int) change            { return func(r *api.Reply) { r.N = n } }

// of is a reply to which the change was done.
func (x change) of(r api.Reply) api.Reply {
	x(&r)
	return r
}

// full is a reply in which no field is at its zero value.
func full() api.Reply {
	return api.Reply{
		E: api.Taken, H: at(3, 4), Attr: api.Attr{Kind: api.KindFile, Links: 2, Size: 300, Stamp: 7}, Data: "data",
		Entries: []api.Entry{named("a", 1, at(1, 1)), named("bc", 5, at(0, 0)), named("a", 260, at(255, api.MaxBig))}, N: 9,
	}
}

// most is a reply in which all is as great and as long as it may be.
func most() api.Reply {
	r := api.Reply{
		E: 65535, H: at(255, api.MaxBig), Attr: api.Attr{Kind: api.KindFile, Links: api.MaxLinks, Size: api.MaxSize, Stamp: api.MaxBig},
		Data: text(api.MaxWrite), Entries: listed(64, api.MaxBig), N: api.MaxBig,
	}
	for i := range r.Entries {
		r.Entries[i].Name, r.Entries[i].To = text(api.MaxName), at(255, api.MaxBig)
	}
	return r
}

// rightChanges leave a right reply right.
func rightChanges() []change {
	l := []change{entries(), func(r *api.Reply) { r.Entries = []api.Entry{} }}
	for _, e := range []api.Errno{api.OK, 1, 3, 255, 256, api.Stale, api.BadCall, 9999, 65534, 65535} {
		l = append(l, errno(e))
	}
	for _, x := range []api.Handle{{}, at(0, 1), at(1, 0), at(1, 1), at(23, 2), at(24, 2), at(254, 0), at(255, 0), at(0, api.MaxBig-1), at(0, api.MaxBig), at(255, api.MaxBig)} {
		l = append(l, h(x), entries(named("a", 1, x)), entries(named("a", 1, at(1, 1)), named("b", 2, x)))
	}
	for _, a := range []api.Attr{
		{}, {Kind: api.KindFile}, {Kind: api.KindFile, Links: 1}, {Kind: api.KindFile, Links: api.MaxLinks}, {Kind: api.KindFile, Size: api.MaxSize},
		{Kind: api.KindFile, Stamp: api.MaxBig}, {Kind: api.KindDir, Links: 1}, {Kind: api.KindDir, Links: 1, Size: api.MaxSize, Stamp: api.MaxBig},
	} {
		l = append(l, attrs(a))
	}
	for _, s := range []string{"", "a", "\x00", "\x00\x00", "/", "\xff\xfe", text(255), text(256), text(api.MaxWrite - 1), text(api.MaxWrite), strings.Repeat("\x00", api.MaxWrite)} {
		l = append(l, data(s))
	}
	for _, n := range []int{0, 1, 2, 63, 64} {
		l = append(l, entries(listed(n, n)...), entries(listed(n, api.MaxBig)...))
	}
	for _, x := range [][]int{{1}, {2}, {api.MaxBig - 1}, {api.MaxBig}, {1, 2}, {1, api.MaxBig}, {5, 6, 7}, {255, 256, 65536, 1 << 32}} {
		l = append(l, entries(cookies(x...)...))
	}
	for _, s := range []string{"a", "...", ".a", "..a", " ", "\x01", "\xff", "ä", "\\", text(api.MaxName - 1), text(api.MaxName)} {
		l = append(l, entries(named(s, 1, at(0, 0))), entries(named("a", 1, at(1, 1)), named(s, 2, at(1, 1))))
	}
	for _, n := range []int{0, 1, 255, 256, 65536, 1 << 32, api.MaxBig - 1, api.MaxBig} {
		l = append(l, count(n))
	}
	return l
}

// wrongHandles are handles that a reply may not have, each for one reason.
func wrongHandles() []api.Handle {
	var l []api.Handle
	for _, no := range []int{math.MinInt, -256, -1, 256, 257, 1 << 32, math.MaxInt} {
		l = append(l, at(no, 0), at(no, 1))
	}
	for _, gen := range []int{math.MinInt, -1, api.MaxBig + 1, 1<<48 - 1, 1 << 48, math.MaxInt} {
		l = append(l, at(0, gen), at(255, gen))
	}
	return l
}

// wrongAttrs are attributes that are not right, each for one reason.
func wrongAttrs() []api.Attr {
	return []api.Attr{
		{Kind: -1}, {Kind: 3}, {Kind: 255, Links: 1}, {Kind: 256}, {Links: 1}, {Size: 1}, {Stamp: 1}, {Stamp: -1},
		{Kind: api.KindFile, Links: -1}, {Kind: api.KindFile, Links: api.MaxLinks + 1}, {Kind: api.KindFile, Links: 256},
		{Kind: api.KindFile, Size: -1}, {Kind: api.KindFile, Size: api.MaxSize + 1}, {Kind: api.KindFile, Size: 1 << 32},
		{Kind: api.KindFile, Stamp: -1}, {Kind: api.KindFile, Stamp: api.MaxBig + 1}, {Kind: api.KindFile, Stamp: 1 << 48},
		{Kind: api.KindDir}, {Kind: api.KindDir, Links: 2}, {Kind: api.KindDir, Links: 1, Size: api.MaxSize + 1}, {Kind: api.KindDir, Links: 1, Stamp: api.MaxBig + 1},
	}
}

// wrongNames are texts that are no names.
func wrongNames() []string {
	return []string{"", ".", "..", "/", "a/", "/a", "a/b", "\x00", "a\x00", "\x00a", "a\x00b", "\xff/", "\xc0/a", "ä\x00", text(api.MaxName + 1), text(256), text(65535)}
}

// wrongChanges have a reply be wrong, each for one reason.
func wrongChanges() []change {
	var l []change
	for _, e := range []api.Errno{math.MinInt, -65536, -1, 65536, 65537, 1 << 32, math.MaxInt} {
		l = append(l, errno(e))
	}
	for _, x := range wrongHandles() {
		l = append(l, h(x), entries(named("a", 1, x)), entries(named("a", 1, x), named("b", 2, at(1, 1))), entries(named("a", 1, at(1, 1)), named("b", 2, x)))
	}
	for _, a := range wrongAttrs() {
		l = append(l, attrs(a))
	}
	for _, n := range []int{api.MaxWrite + 1, api.MaxWrite + 2, 1024, 65535, 65536, 100000} {
		l = append(l, data(text(n)))
	}
	for _, n := range []int{65, 66, 128, 1000} {
		l = append(l, entries(listed(n, n)...), entries(listed(n, api.MaxBig)...))
	}
	for _, x := range [][]int{
		{0}, {-1}, {math.MinInt}, {api.MaxBig + 1}, {1<<48 - 1}, {1 << 48}, {math.MaxInt}, {0, 1}, {-1, 1}, {1, api.MaxBig + 1}, {1, math.MaxInt},
		{1, 1}, {5, 5}, {api.MaxBig, api.MaxBig}, {2, 1}, {1, 3, 2}, {1, 2, 2}, {3, 4, 1}, {1, 0}, {1, -1}, {1, 2, 3, math.MinInt}, {api.MaxBig, 1},
	} {
		l = append(l, entries(cookies(x...)...))
	}
	for _, s := range wrongNames() {
		l = append(l, entries(named(s, 1, at(1, 1))), entries(named(s, 1, at(1, 1)), named("b", 2, at(1, 1))), entries(named("a", 1, at(1, 1)), named(s, 2, at(1, 1))))
	}
	for _, n := range []int{math.MinInt, -1, api.MaxBig + 1, 1<<48 - 1, 1 << 48, math.MaxInt} {
		l = append(l, count(n))
	}
	return l
}

// grounds are replies that changes are done to.
func grounds() []api.Reply { return []api.Reply{{}, full(), most()} }

func rightReplies() []api.Reply {
	l := grounds()
	for _, r := range grounds() {
		for _, x := range rightChanges() {
			l = append(l, x.of(r))
		}
	}
	return l
}

func wrongReplies() []api.Reply {
	var l []api.Reply
	for _, r := range grounds() {
		for _, x := range wrongChanges() {
			l = append(l, x.of(r))
		}
	}
	return l
}

// same tells whether two replies are; a list without an element may be nil.
func same(a, b api.Reply) bool {
	return a.E == b.E && a.H == b.H && a.Attr == b.Attr && a.Data == b.Data && slices.Equal(a.Entries, b.Entries) && a.N == b.N
}

func wantPack(t *testing.T, r api.Reply, want string, wantE api.Errno) {
	t.Helper()
	if s, e := Pack(r); s != want || e != wantE {
		t.Errorf("Pack(%.200v): %.200q, %v; want %.200q, %v", r, s, e, want, wantE)
	}
}

func wantUnpack(t *testing.T, s string, want api.Reply, wantE api.Errno) {
	t.Helper()
	if r, e := Unpack(s); !same(r, want) || e != wantE {
		t.Errorf("Unpack(%.200q): %.200v, %v; want %.200v, %v", s, r, e, want, wantE)
	}
}

func wantNone(t *testing.T, s string) {
	t.Helper()
	wantUnpack(t, s, api.Reply{}, api.ErrForm)
}

// 14.1

func TestCheck(t *testing.T) {
	for _, r := range rightReplies() {
		if e := Check(r); e != api.OK {
			t.Errorf("Check(%.200v): %v", r, e)
		}
	}
	for _, r := range wrongReplies() {
		if e := Check(r); e != api.ErrForm {
			t.Errorf("Check(%.200v): %v", r, e)
		}
	}
}

func TestExample(t *testing.T) {
	wantPack(t, api.Reply{E: api.Stale}, "\x01\x00\x02\x01\x91", api.OK)
	wantUnpack(t, "\x01\x00\x02\x01\x91", api.Reply{E: api.Stale}, api.OK)
}

// fieldForms are one change of each field, and its bytes, by their tags.
func fieldForms() []struct {
	x     change
	bytes string
} {
	return []struct {
		x     change
		bytes string
	}{
		{errno(0x1234), "\x01\x00\x02\x12\x34"},
		{h(at(0xab, 0x0123456789)), "\x02\x00\x07\xab\x00\x01\x23\x45\x67\x89"},
		{attrs(api.Attr{Kind: api.KindFile, Links: 2, Size: 300, Stamp: 7}), "\x03\x00\x0c\x01\x02\x00\x00\x01\x2c\x00\x00\x00\x00\x00\x07"},
		{data("\x00\x00"), "\x04\x00\x02\x00\x00"},
		{entries(named("ab", 3, at(4, 5)), named("c", 0x10203, at(0, 0))), "\x05\x00\x0f\x00\x00\x00\x00\x00\x03\x04\x00\x00\x00\x00\x00\x05ab" +
			"\x05\x00\x0e\x00\x00\x00\x01\x02\x03\x00\x00\x00\x00\x00\x00\x00c"},
		{count(api.MaxBig), "\x06\x00\x06\x01\x00\x00\x00\x00\x00"},
	}
}

// Each field alone, and in every company of others: what is at its zero value is left out, what is not is there.
func TestZeroValuesAreLeftOut(t *testing.T) {
	forms := fieldForms()
	for set := range 1 << len(forms) {
		r, s := api.Reply{}, ""
		for i, f := range forms {
			if set>>i&1 == 1 {
				r, s = f.x.of(r), s+f.bytes
			}
		}
		wantPack(t, r, s, api.OK)
		wantUnpack(t, s, r, api.OK)
	}
	// Of a handle and of attributes one number is enough to have them be there.
	wantPack(t, api.Reply{H: at(1, 0)}, "\x02\x00\x07\x01\x00\x00\x00\x00\x00\x00", api.OK)
	wantPack(t, api.Reply{H: at(0, 1)}, "\x02\x00\x07\x00\x00\x00\x00\x00\x00\x01", api.OK)
	wantPack(t, api.Reply{Attr: api.Attr{Kind: api.KindFile}}, "\x03\x00\x0c\x01"+strings.Repeat("\x00", 11), api.OK)
}

func TestPack(t *testing.T) {
	for _, r := range rightReplies() {
		wantPack(t, r, written(r), api.OK)
	}
	for _, r := range wrongReplies() {
		wantPack(t, r, "", api.ErrForm)
	}
}

// Bytes that fit their fields, but say what no right reply has.
func TestUnpackOutOfRange(t *testing.T) {
	for _, s := range []string{
		field(2, be(0, 1)+be(api.MaxBig+1, 6)), field(2, be(255, 1)+be(1<<48-1, 6)),
		field(4, text(api.MaxWrite+1)), field(4, text(65535)),
		field(6, be(api.MaxBig+1, 6)), field(6, be(1<<48-1, 6)),
		written(api.Reply{Entries: listed(65, 65)}),
		written(api.Reply{Entries: cookies(0)}), written(api.Reply{Entries: cookies(api.MaxBig + 1)}), written(api.Reply{Entries: cookies(1<<48 - 1)}),
		written(api.Reply{Entries: cookies(0, 1)}), written(api.Reply{Entries: cookies(3, 3)}), written(api.Reply{Entries: cookies(4, 3)}),
		written(api.Reply{Entries: []api.Entry{named("a", 1, at(1, api.MaxBig+1))}}), written(api.Reply{Entries: []api.Entry{named("a", 1, at(1, 1<<48-1))}}),
	} {
		wantNone(t, s)
	}
	for _, a := range wrongAttrs() {
		if a.Kind == a.Kind&255 && a.Links == a.Links&255 && a.Size == a.Size&(1<<32-1) && a.Stamp == a.Stamp&(1<<48-1) {
			wantNone(t, field(3, attrBytes(a)))
		}
	}
	for _, s := range wrongNames() {
		if len(s) < 65535-13 {
			wantNone(t, written(api.Reply{Entries: []api.Entry{named(s, 1, at(1, 1))}}))
			wantNone(t, written(api.Reply{Entries: []api.Entry{named("a", 1, at(1, 1)), named(s, 2, at(1, 1))}}))
		}
	}
}

func TestUnpackFieldTwice(t *testing.T) {
	for _, f := range fieldForms() {
		wantUnpack(t, f.bytes, f.x.of(api.Reply{}), api.OK)
		wantNone(t, f.bytes+f.bytes)
		other := []byte(f.bytes)
		other[len(other)-1] ^= 3
		if f.bytes[0] != 5 {
			wantNone(t, f.bytes+string(other))
		}
	}
}

func TestUnpackTagsOutOfOrder(t *testing.T) {
	forms := fieldForms()
	for i := range forms {
		for j := range i {
			wantNone(t, forms[i].bytes+forms[j].bytes)
			l := slices.Clone(forms)
			l[i], l[j] = l[j], l[i]
			s := ""
			for _, f := range l {
				s += f.bytes
			}
			wantNone(t, s)
		}
	}
}

func TestUnpackTagThatIsNone(t *testing.T) {
	for _, s := range []string{"", written(full())} {
		for tag := 7; tag < 256; tag++ {
			wantNone(t, s+field(byte(tag), ""))
			wantNone(t, s+field(byte(tag), "a"))
		}
		wantNone(t, s+field(0, ""))
		wantNone(t, field(0, "")+s)
	}
}

func TestUnpackValueShortOrLong(t *testing.T) {
	for tag, size := range map[byte]int{1: 2, 2: 7, 3: 12, 6: 6} {
		for _, n := range []int{0, 1, size - 1, size + 1, 8, 9, 16} {
			if n == size {
				continue
			}
			for _, v := range []string{strings.Repeat("\x00", n), strings.Repeat("\x01", n), strings.Repeat("\xff", n), strings.Repeat("\x00", max(n-1, 0)) + "\x01", "\x01" + strings.Repeat("\x00", max(n-1, 0))} {
				wantNone(t, field(tag, v))
				if tag < 6 {
					wantNone(t, field(tag, v)+field(6, be(1, 6)))
				}
			}
		}
	}
	whole := be(1, 6) + be(1, 1) + be(1, 6) + "a"
	wantUnpack(t, field(5, whole), api.Reply{Entries: cookies(1)}, api.OK)
	for n := range len(whole) {
		wantNone(t, field(5, whole[:n]))
		wantNone(t, field(5, whole[:n])+field(5, be(2, 6)+whole[6:]))
		wantNone(t, field(5, whole)+field(5, whole[:n]))
	}
}

func TestUnpackZeroValueThatIsThere(t *testing.T) {
	for tag, size := range map[byte]int{1: 2, 2: 7, 3: 12, 4: 0, 5: 0, 6: 6} {
		zero := field(tag, strings.Repeat("\x00", size))
		wantNone(t, zero)
		if tag < 6 {
			wantNone(t, zero+field(6, be(1, 6)))
		}
	}
	wantNone(t, field(5, strings.Repeat("\x00", 13)))
	wantNone(t, field(5, strings.Repeat("\x00", 13)+"a"))
}

func TestUnpackCutAndWithMoreBehind(t *testing.T) {
	for _, r := range grounds() {
		s := written(r)
		for n := range len(s) {
			want, e := parsed(s[:n])
			wantUnpack(t, s[:n], want, e)
		}
		for _, more := range []string{"\x00", "\x01", "\x06", "\x06\x00", "\x06\x00\x06", "\x06\x00\x05\x00\x00\x00\x00\x01", "\x07\x00\x00", "\xff\xff\xff"} {
			wantNone(t, s+more)
		}
	}
	wantNone(t, written(full())+written(full()))
}

func TestUnpackAgainstSecondWriting(t *testing.T) {
	right := 0
	two := api.Reply{Entries: []api.Entry{named("a", 255, at(1, 1)), named("b.", 256, at(0, 0))}}
	for _, r := range []api.Reply{full(), two, {E: 1, N: api.MaxBig}, {Attr: api.Attr{Kind: api.KindDir, Links: 1}, Data: "\x00"}} {
		for _, s := range near(written(r)) {
			want, e := parsed(s)
			wantUnpack(t, s, want, e)
			if e == api.OK {
				right++
			}
		}
	}
	if right < 1000 {
		t.Errorf("only %d texts are replies", right)
	}
}

// 14.2

func TestPackedIsUnpacked(t *testing.T) {
	forms := map[string]api.Reply{}
	for _, r := range rightReplies() {
		s, e := Pack(r)
		if e != api.OK {
			t.Fatalf("Pack(%.200v): %v", r, e)
		}
		wantUnpack(t, s, r, api.OK)
		if q, ok := forms[s]; ok && !same(q, r) {
			t.Errorf("one form of two replies: %.200v, %.200v", r, q)
		}
		forms[s] = r
	}
}

// All short texts of a few telling bytes behind some beginnings: each that is a reply's is the one form of that.
func TestUnpackedIsPacked(t *testing.T) {
	telling := []byte{0, 1, 2, 4, 5, 6}
	unpacked := 0
	var walk func(s string, more int)
	walk = func(s string, more int) {
		want, wantE := parsed(s)
		wantUnpack(t, s, want, wantE)
		if wantE == api.OK {
			unpacked++
			wantPack(t, want, s, api.OK)
		}
		if more == 0 {
			return
		}
		for _, b := range telling {
			walk(s+string([]byte{b}), more-1)
		}
	}
	walk("", 6)
	walk("\x01\x00\x02\x00", 5)
	walk("\x05\x00\x0f\x00\x00\x00\x00\x00\x01\x00\x00\x00\x00\x00", 5)
	if unpacked < 100 {
		t.Errorf("only %d texts are unpacked", unpacked)
	}
}

func TestZeroReplyHasNoBytes(t *testing.T) {
	wantPack(t, api.Reply{}, "", api.OK)
	wantPack(t, api.Reply{Entries: []api.Entry{}}, "", api.OK)
	wantUnpack(t, "", api.Reply{}, api.OK)
}

// R3

func TestNothingHandedInIsChangedOrShared(t *testing.T) {
	room := append(make([]api.Entry, 0, 8), full().Entries...)
	spare := named("spare", 9, at(9, 9))
	room[:cap(room)][len(room)] = spare
	r := entries(room...).of(full())
	s, _ := Pack(r)
	Check(r)
	if !slices.Equal(room, full().Entries) || room[:cap(room)][len(room)] != spare {
		t.Errorf("changed: %v", room[:cap(room)])
	}
	q, _ := Unpack(s)
	for i := range q.Entries[:cap(q.Entries)] {
		q.Entries[:cap(q.Entries)][i] = spare
	}
	wantUnpack(t, s, r, api.OK)
}

// P1: long bytes of little sense, and many entries.
func TestLongTexts(t *testing.T) {
	wantNone(t, strings.Repeat("\x00", 1<<20))
	wantNone(t, strings.Repeat("\xff", 1<<20))
	wantNone(t, strings.Repeat("\x05\x00\x00", 1<<18))
	wantNone(t, written(api.Reply{Entries: listed(1<<16, api.MaxBig)}))
	wantPack(t, api.Reply{Entries: listed(1<<16, api.MaxBig)}, "", api.ErrForm)
}
