package attr

import (
	"math"
	"strings"
	"testing"

	"sexton/api"
)

func file(links, size, stamp int) api.Attr {
	return api.Attr{Kind: api.KindFile, Links: links, Size: size, Stamp: stamp}
}

func dir(size, stamp int) api.Attr {
	return api.Attr{Kind: api.KindDir, Links: 1, Size: size, Stamp: stamp}
}

// rightAttrs are right attributes, those at the edges among them.
func rightAttrs() []api.Attr {
	l := []api.Attr{{}}
	for _, size := range []int{0, 1, 255, 256, 300, api.MaxSize - 1, api.MaxSize} {
		for _, stamp := range []int{0, 1, 7, 1 << 32, api.MaxBig - 1, api.MaxBig} {
			l = append(l, dir(size, stamp))
			for _, links := range []int{0, 1, 2, api.MaxLinks - 1, api.MaxLinks} {
				l = append(l, file(links, size, stamp))
			}
		}
	}
	return l
}

// wrongAttrs are attributes of which one thing is not right.
func wrongAttrs() []api.Attr {
	l := []api.Attr{
		{Links: 1}, {Links: -1}, {Size: 1}, {Size: -1}, {Stamp: 1}, {Stamp: -1}, {Stamp: api.MaxBig},
		{Kind: api.KindDir}, {Kind: api.KindDir, Size: 5, Stamp: 5},
		{Kind: api.KindDir, Links: 2}, {Kind: api.KindDir, Links: -1}, {Kind: api.KindDir, Links: api.MaxLinks},
	}
	for _, kind := range []int{-1, 3, 4, 255, 256, 257, 258, math.MinInt, math.MaxInt} {
		l = append(l, api.Attr{Kind: kind}, api.Attr{Kind: kind, Links: 1})
	}
	for _, links := range []int{-1, api.MaxLinks + 1, 255, 256, 257, math.MinInt, math.MaxInt} {
		l = append(l, file(links, 0, 0), file(links, 300, 7))
	}
	for _, size := range []int{-1, api.MaxSize + 1, 1 << 32, math.MinInt, math.MaxInt} {
		l = append(l, file(1, size, 0), file(0, size, 7), dir(size, 0))
	}
	for _, stamp := range []int{-1, api.MaxBig + 1, 1 << 48, math.MinInt, math.MaxInt} {
		l = append(l, file(1, 0, stamp), file(0, 5, stamp), dir(0, stamp))
	}
	return l
}

func wantPack(t *testing.T, a api.Attr, want string, wantE api.Errno) {
	t.Helper()
	if s, e := Pack(a); s != want || e != wantE {
		t.Errorf("Pack(%v): %q, %v; want %q, %v", a, s, e, want, wantE)
	}
}

func wantUnpack(t *testing.T, s string, want api.Attr, wantE api.Errno) {
	t.Helper()
	if a, e := Unpack(s); a != want || e != wantE {
		t.Errorf("Unpack(%q): %v, %v; want %v, %v", s, a, e, want, wantE)
	}
}

func wantLink(t *testing.T, a api.Attr, by, stamp int, want api.Attr, wantE api.Errno) {
	t.Helper()
	if b, e := Link(a, by, stamp); b != want || e != wantE {
		t.Errorf("Link(%v, %d, %d): %v, %v; want %v, %v", a, by, stamp, b, e, want, wantE)
	}
}

func wantGrow(t *testing.T, a api.Attr, size, stamp int, want api.Attr, wantE api.Errno) {
	t.Helper()
	if b, e := Grow(a, size, stamp); b != want || e != wantE {
		t.Errorf("Grow(%v, %d, %d): %v, %v; want %v, %v", a, size, stamp, b, e, want, wantE)
	}
}

// packed are the bytes of fields, which need not be right, by shifts alone.
func packed(kind, links, size, stamp int) string {
	return string([]byte{
		byte(kind), byte(links),
		byte(size >> 24), byte(size >> 16), byte(size >> 8), byte(size),
		byte(stamp >> 40), byte(stamp >> 32), byte(stamp >> 24), byte(stamp >> 16), byte(stamp >> 8), byte(stamp),
	})
}

// 7.1

func TestCheck(t *testing.T) {
	for _, a := range rightAttrs() {
		if e := Check(a); e != api.OK {
			t.Errorf("Check(%v): %v", a, e)
		}
	}
	for _, a := range wrongAttrs() {
		if e := Check(a); e != api.ErrAttr {
			t.Errorf("Check(%v): %v", a, e)
		}
	}
}

func TestExample(t *testing.T) {
	s := "\x01\x02\x00\x00\x01\x2c\x00\x00\x00\x00\x00\x07"
	wantPack(t, file(2, 300, 7), s, api.OK)
	wantUnpack(t, s, file(2, 300, 7), api.OK)
}

func TestPack(t *testing.T) {
	for _, a := range rightAttrs() {
		wantPack(t, a, packed(a.Kind, a.Links, a.Size, a.Stamp), api.OK)
	}
	for _, a := range wrongAttrs() {
		wantPack(t, a, "", api.ErrAttr)
	}
	wantPack(t, api.Attr{}, strings.Repeat("\x00", 12), api.OK)
	wantPack(t, dir(api.MaxSize, api.MaxBig), "\x02\x01\x00\x10\x00\x00\x01\x00\x00\x00\x00\x00", api.OK)
	wantPack(t, file(64, 0x012345, 0xabcdef1234), "\x01\x40\x00\x01\x23\x45\x00\xab\xcd\xef\x12\x34", api.OK)
}

func TestUnpackLength(t *testing.T) {
	s := packed(api.KindFile, 2, 300, 7)
	for _, x := range []string{"", s[:1], s[:6], s[:11], s[1:], s + "\x00", "\x00" + s, s + s, strings.Repeat("\xff", 11), strings.Repeat("\xff", 13)} {
		wantUnpack(t, x, api.Attr{}, api.ErrForm)
	}
}

func TestUnpackWrong(t *testing.T) {
	for _, s := range []string{
		packed(3, 0, 0, 0), packed(3, 1, 0, 0), packed(255, 1, 5, 5),
		packed(0, 1, 0, 0), packed(0, 0, 1, 0), packed(0, 0, 0, 1), packed(0, 0, 1<<31, 0), packed(0, 0, 0, 1<<47),
		packed(1, 65, 0, 0), packed(1, 255, 0, 0),
		packed(1, 1, api.MaxSize+1, 0), packed(1, 1, 1<<31, 0), packed(1, 1, 1<<32-1, 0),
		packed(1, 1, 0, api.MaxBig+1), packed(1, 1, 0, 1<<47), packed(1, 1, 0, 1<<48-1),
		packed(2, 0, 0, 0), packed(2, 2, 0, 0), packed(2, 64, 0, 0),
		packed(2, 1, api.MaxSize+1, 0), packed(2, 1, 0, api.MaxBig+1),
		strings.Repeat("\xff", 12),
	} {
		wantUnpack(t, s, api.Attr{}, api.ErrAttr)
	}
	wantUnpack(t, packed(1, 64, api.MaxSize, api.MaxBig), file(64, api.MaxSize, api.MaxBig), api.OK)
	wantUnpack(t, packed(2, 1, api.MaxSize, api.MaxBig), dir(api.MaxSize, api.MaxBig), api.OK)
	wantUnpack(t, strings.Repeat("\x00", 12), api.Attr{}, api.OK)
}

// 7.2

func TestLink(t *testing.T) {
	wantLink(t, file(2, 300, 7), -1, 9, file(1, 300, 9), api.OK)
	wantLink(t, file(2, 300, 7), 1, 9, file(3, 300, 9), api.OK)
	wantLink(t, file(0, 0, 0), 1, 0, file(1, 0, 0), api.OK)
	wantLink(t, file(1, 5, 7), -1, 7, file(0, 5, 7), api.OK)
	wantLink(t, file(63, 5, 7), 1, api.MaxBig, file(64, 5, api.MaxBig), api.OK)
	wantLink(t, file(64, 5, api.MaxBig), -1, api.MaxBig, file(63, 5, api.MaxBig), api.OK)
	wantLink(t, file(64, 5, 7), 1, 8, api.Attr{}, api.ErrFull)
	wantLink(t, file(0, 5, 7), -1, 8, api.Attr{}, api.ErrNone)
}

func TestLinkArguments(t *testing.T) {
	for _, by := range []int{-2, 0, 2, 64, -64, math.MinInt, math.MaxInt} {
		wantLink(t, file(2, 300, 7), by, 9, api.Attr{}, api.ErrArg)
	}
	for _, by := range []int{-1, 1} {
		for _, stamp := range []int{6, 0, -1, api.MaxBig + 1, math.MinInt, math.MaxInt} {
			wantLink(t, file(2, 300, 7), by, stamp, api.Attr{}, api.ErrArg)
		}
		wantLink(t, file(2, 300, 7), by, 7, file(2+by, 300, 7), api.OK)
		wantLink(t, file(2, 300, 7), by, api.MaxBig, file(2+by, 300, api.MaxBig), api.OK)
		wantLink(t, dir(300, 7), by, 9, api.Attr{}, api.ErrState)
		wantLink(t, api.Attr{}, by, 0, api.Attr{}, api.ErrState)
		wantLink(t, api.Attr{}, by, api.MaxBig, api.Attr{}, api.ErrState)
	}
}

// TestLinkOrder: of several faults the one that the chapter names first is told.
func TestLinkOrder(t *testing.T) {
	for _, a := range wrongAttrs() {
		for _, by := range []int{-1, 0, 1, math.MinInt, math.MaxInt} {
			wantLink(t, a, by, 9, api.Attr{}, api.ErrAttr)
			wantLink(t, a, by, -1, api.Attr{}, api.ErrAttr)
		}
	}
	for _, a := range []api.Attr{{}, dir(0, 7), file(0, 0, 7), file(64, 0, 7)} {
		wantLink(t, a, 2, 9, api.Attr{}, api.ErrArg)
		wantLink(t, a, -2, 9, api.Attr{}, api.ErrArg)
		wantLink(t, a, 1, -1, api.Attr{}, api.ErrArg)
		wantLink(t, a, -1, -1, api.Attr{}, api.ErrArg)
		wantLink(t, a, 1, api.MaxBig+1, api.Attr{}, api.ErrArg)
	}
}

func TestGrow(t *testing.T) {
	for _, size := range []int{0, 1, 299, 300, 301, api.MaxSize - 1, api.MaxSize} {
		for _, stamp := range []int{7, 8, api.MaxBig} {
			wantGrow(t, file(2, 300, 7), size, stamp, file(2, size, stamp), api.OK)
			wantGrow(t, file(0, 300, 7), size, stamp, file(0, size, stamp), api.OK)
			wantGrow(t, dir(300, 7), size, stamp, dir(size, stamp), api.OK)
		}
	}
	for _, size := range []int{-1, api.MaxSize + 1, math.MinInt, math.MaxInt} {
		wantGrow(t, file(2, 300, 7), size, 9, api.Attr{}, api.TooFar)
		wantGrow(t, dir(300, 7), size, 9, api.Attr{}, api.TooFar)
	}
	for _, stamp := range []int{6, 0, -1, api.MaxBig + 1, math.MinInt, math.MaxInt} {
		wantGrow(t, file(2, 300, 7), 5, stamp, api.Attr{}, api.ErrArg)
		wantGrow(t, dir(300, 7), 5, stamp, api.Attr{}, api.ErrArg)
	}
	wantGrow(t, api.Attr{}, 0, 0, api.Attr{}, api.ErrState)
	wantGrow(t, api.Attr{}, 5, api.MaxBig, api.Attr{}, api.ErrState)
}

func TestGrowOrder(t *testing.T) {
	for _, a := range wrongAttrs() {
		wantGrow(t, a, 5, 9, api.Attr{}, api.ErrAttr)
		wantGrow(t, a, -1, -1, api.Attr{}, api.ErrAttr)
		wantGrow(t, a, api.MaxSize+1, api.MaxBig+1, api.Attr{}, api.ErrAttr)
	}
	for _, a := range []api.Attr{{}, dir(0, 7), file(0, 0, 7)} {
		wantGrow(t, a, 5, -1, api.Attr{}, api.ErrArg)
		wantGrow(t, a, -1, -1, api.Attr{}, api.ErrArg)
		wantGrow(t, a, api.MaxSize+1, api.MaxBig+1, api.Attr{}, api.ErrArg)
	}
	wantGrow(t, api.Attr{}, -1, 0, api.Attr{}, api.ErrState)
	wantGrow(t, api.Attr{}, api.MaxSize+1, 5, api.Attr{}, api.ErrState)
}

// 7.3

func TestPackedIsUnpacked(t *testing.T) {
	for _, a := range rightAttrs() {
		s, e := Pack(a)
		if len(s) != 12 || e != api.OK {
			t.Fatalf("Pack(%v): %q, %v", a, s, e)
		}
		wantUnpack(t, s, a, api.OK)
	}
}

// TestUnpackedIsPacked: what has a meaning has one form of it.
func TestUnpackedIsPacked(t *testing.T) {
	x := 1
	for range 20000 {
		b := []byte(packed(api.KindFile, 2, 300, 7))
		for range 1 + x%3 {
			x = x * 48271 % (1<<31 - 1)
			b[x%12] = byte(x >> 8)
		}
		if a, e := Unpack(string(b)); e == api.OK {
			wantPack(t, a, string(b), api.OK)
		} else if e != api.ErrAttr || a != (api.Attr{}) {
			t.Errorf("Unpack(%q): %v, %v", b, a, e)
		}
	}
}

func TestLinkMoreAndLess(t *testing.T) {
	for _, a := range rightAttrs() {
		if a.Kind != api.KindFile {
			continue
		}
		for _, by := range []int{1, -1} {
			b, e := Link(a, by, a.Stamp)
			if e != api.OK {
				if b != (api.Attr{}) || a.Links != 0 && a.Links != api.MaxLinks {
					t.Errorf("Link(%v, %d): %v, %v", a, by, b, e)
				}
				continue
			}
			if Check(b) != api.OK || b.Links != a.Links+by {
				t.Errorf("Link(%v, %d): %v", a, by, b)
			}
			want := a
			want.Stamp = api.MaxBig
			wantLink(t, b, -by, api.MaxBig, want, api.OK)
		}
	}
}

// TestTotal: every call ends, none panics, and what is answered without an error is right (P1).
func TestTotal(t *testing.T) {
	odd := []int{math.MinInt, -1 << 40, -257, -2, -1, 0, 1, 2, 3, 63, 64, 65, 255, 256, api.MaxSize, api.MaxSize + 1, api.MaxBig, api.MaxBig + 1, math.MaxInt}
	for _, kind := range odd {
		for _, links := range odd {
			for i, size := range odd {
				a := api.Attr{Kind: kind, Links: links, Size: size, Stamp: odd[(i*7+3)%len(odd)]}
				right := Check(a) == api.OK
				for j, x := range odd {
					stamp := odd[(j*5+i)%len(odd)]
					b, e := Link(a, x, stamp)
					c, f := Grow(a, x, stamp)
					if Check(b) != api.OK || Check(c) != api.OK || right == (e == api.ErrAttr) || right == (f == api.ErrAttr) {
						t.Fatalf("%v, %d, %d: %v, %v; %v, %v", a, x, stamp, b, e, c, f)
					}
				}
			}
		}
	}
}
