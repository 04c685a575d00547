package tlv

import (
	"encoding/binary"
	"math"
	"slices"
	"strings"
	"testing"

	"sexton/api"
)

// text is a text of n bytes of which no two neighbours are the same.
func text(n int) string {
	b := make([]byte, n)
	for i := range b {
		b[i] = byte(i*7 + i>>8)
	}
	return string(b)
}

func wantPack(t *testing.T, l []Field, want string, wantE api.Errno) {
	t.Helper()
	if s, e := Pack(l); s != want || e != wantE {
		t.Errorf("Pack of %d fields: %d bytes, %v; want %d bytes, %v", len(l), len(s), e, len(want), wantE)
	}
}

func wantUnpack(t *testing.T, s string, want []Field, wantE api.Errno) {
	t.Helper()
	if l, e := Unpack(s); !slices.Equal(l, want) || e != wantE {
		t.Errorf("Unpack(%.40q): %d fields, %v; want %d fields, %v", s, len(l), e, len(want), wantE)
	}
}

// 1.1

func TestPackTellsTheBytes(t *testing.T) {
	wantPack(t, []Field{{1, "ab"}, {1, ""}, {7, "x"}}, "\x01\x00\x02ab\x01\x00\x00\x07\x00\x01x", api.OK)
	wantPack(t, nil, "", api.OK)
	wantPack(t, []Field{}, "", api.OK)
	wantPack(t, []Field{{9, text(258)}}, "\x09\x01\x02"+text(258), api.OK)
}

func TestPackTags(t *testing.T) {
	for _, tag := range []int{1, 2, 127, 128, 254, 255} {
		wantPack(t, []Field{{tag, "v"}}, string([]byte{byte(tag), 0, 1, 'v'}), api.OK)
	}
	for _, tag := range []int{0, 256, 257, 512, -1, -255, 1 << 32, 1<<32 + 1, math.MinInt, math.MaxInt} {
		wantPack(t, []Field{{tag, "v"}}, "", api.ErrArg)
		wantPack(t, []Field{{1, "v"}, {tag, "v"}}, "", api.ErrArg)
	}
	wantPack(t, []Field{{1, ""}, {255, ""}}, "\x01\x00\x00\xff\x00\x00", api.OK)
}

func TestPackLongValues(t *testing.T) {
	for _, n := range []int{255, 256, 65534, 65535} {
		wantPack(t, []Field{{3, text(n)}}, string([]byte{3, byte(n >> 8), byte(n)})+text(n), api.OK)
	}
	for _, n := range []int{65536, 65537, 131072} {
		wantPack(t, []Field{{3, text(n)}}, "", api.ErrLong)
		wantPack(t, []Field{{3, "v"}, {4, text(n)}}, "", api.ErrLong)
	}
}

func TestPackTagsThatFall(t *testing.T) {
	wantPack(t, []Field{{2, ""}, {1, ""}}, "", api.ErrOrder)
	wantPack(t, []Field{{255, ""}, {254, ""}}, "", api.ErrOrder)
	wantPack(t, []Field{{1, ""}, {3, ""}, {2, ""}}, "", api.ErrOrder)
	wantPack(t, []Field{{3, ""}, {1, ""}, {2, ""}}, "", api.ErrOrder)
	wantPack(t, []Field{{2, ""}, {2, ""}, {3, ""}, {3, ""}}, "\x02\x00\x00\x02\x00\x00\x03\x00\x00\x03\x00\x00", api.OK)
}

func TestPackTellsTheFirstFault(t *testing.T) {
	long := text(65536)
	wantPack(t, []Field{{0, long}}, "", api.ErrArg)
	wantPack(t, []Field{{2, ""}, {0, long}}, "", api.ErrArg)
	wantPack(t, []Field{{2, ""}, {1, long}}, "", api.ErrLong)
	wantPack(t, []Field{{2, long}, {0, ""}}, "", api.ErrLong)
	wantPack(t, []Field{{2, ""}, {1, ""}, {0, ""}}, "", api.ErrOrder)
	wantPack(t, []Field{{2, ""}, {1, ""}, {3, long}}, "", api.ErrOrder)
}

func TestUnpackTellsTheFields(t *testing.T) {
	wantUnpack(t, "\x01\x00\x02ab\x01\x00\x00\x07\x00\x01x", []Field{{1, "ab"}, {1, ""}, {7, "x"}}, api.OK)
	wantUnpack(t, "", nil, api.OK)
	wantUnpack(t, "\xff\x00\x00", []Field{{255, ""}}, api.OK)
	wantUnpack(t, "\x09\x01\x02"+text(258), []Field{{9, text(258)}}, api.OK)
	wantUnpack(t, "\x09\xff\xff"+text(65535)+"\x0a\x00\x01z", []Field{{9, text(65535)}, {10, "z"}}, api.OK)
}

func TestUnpackCutAtEachPlace(t *testing.T) {
	l := []Field{{1, "ab"}, {1, ""}, {7, text(300)}, {255, "x"}}
	whole, _ := Pack(l)
	ends := map[int]int{0: 0, 5: 1, 8: 2, 311: 3, 315: 4}
	for n := range len(whole) + 1 {
		if k, ok := ends[n]; ok {
			wantUnpack(t, whole[:n], l[:k], api.OK)
		} else {
			wantUnpack(t, whole[:n], nil, api.ErrCut)
		}
	}
	wantUnpack(t, "\x01\xff\xff"+text(65534), nil, api.ErrCut)
}

func TestUnpackTellsTheFirstFault(t *testing.T) {
	for s, want := range map[string]api.Errno{
		"\x00":                                 api.ErrCut,
		"\x00\x00":                             api.ErrCut,
		"\x00\x00\x00":                         api.ErrForm,
		"\x00\x00\x05":                         api.ErrForm,
		"\x02\x00\x00\x00\x00\x00":             api.ErrForm,
		"\x02\x00\x00\x00\x00\x05":             api.ErrForm,
		"\x02\x00\x00\x01":                     api.ErrCut,
		"\x02\x00\x00\x01\x00":                 api.ErrCut,
		"\x02\x00\x00\x01\x00\x00":             api.ErrOrder,
		"\x02\x00\x00\x01\x00\x05":             api.ErrOrder,
		"\x01\x00\x00\x03\x00\x00\x02\x00\x00": api.ErrOrder,
		"\x02\x00\x00\x01\x00\x00\x00\x00\x00": api.ErrOrder,
		"\x02\x00\x09\x01\x00\x00":             api.ErrCut,
		"\xff\x00\x00\x01\x00\x00":             api.ErrOrder,
	} {
		wantUnpack(t, s, nil, want)
	}
}

// 1.2

func TestNumOfEachSize(t *testing.T) {
	for size := 1; size <= 8; size++ {
		most := math.MaxInt
		if size < 8 {
			most = 1<<(8*size) - 1
			for _, n := range []int{most + 1, most + 2, math.MaxInt} {
				if s, e := Num(n, size); s != "" || e != api.ErrArg {
					t.Errorf("Num(%d, %d): %q, %v", n, size, s, e)
				}
			}
		}
		for _, n := range []int{0, 1, 2, 128, 255, most / 3, most - 1, most} {
			want := string(binary.BigEndian.AppendUint64(nil, uint64(n))[8-size:])
			if s, e := Num(n, size); s != want || e != api.OK {
				t.Errorf("Num(%d, %d): %q, %v; want %q", n, size, s, e, want)
			}
		}
		for _, n := range []int{-1, -256, math.MinInt} {
			if s, e := Num(n, size); s != "" || e != api.ErrArg {
				t.Errorf("Num(%d, %d): %q, %v", n, size, s, e)
			}
		}
	}
}

func TestNumExamples(t *testing.T) {
	for _, x := range []struct {
		n, size int
		want    string
	}{
		{258, 2, "\x01\x02"},
		{258, 3, "\x00\x01\x02"},
		{255, 1, "\xff"},
		{0, 1, "\x00"},
		{0, 8, "\x00\x00\x00\x00\x00\x00\x00\x00"},
		{math.MaxInt, 8, "\x7f\xff\xff\xff\xff\xff\xff\xff"},
	} {
		if s, e := Num(x.n, x.size); s != x.want || e != api.OK {
			t.Errorf("Num(%d, %d): %q, %v", x.n, x.size, s, e)
		}
	}
}

func TestNumOfWrongSizes(t *testing.T) {
	for _, size := range []int{0, 9, 10, -1, -8, 64, math.MinInt, math.MaxInt} {
		for _, n := range []int{0, 1, -1, math.MaxInt} {
			if s, e := Num(n, size); s != "" || e != api.ErrArg {
				t.Errorf("Num(%d, %d): %q, %v", n, size, s, e)
			}
		}
	}
}

func TestNumber(t *testing.T) {
	for _, x := range []struct {
		s    string
		want int
		e    api.Errno
	}{
		{"\x00", 0, api.OK},
		{"\xff", 255, api.OK},
		{"\x01\x02", 258, api.OK},
		{"\x01\x00\x00", 65536, api.OK},
		{"\x80\x00\x00\x00", 1 << 31, api.OK},
		{"\xff\xff\xff\xff\xff\xff\xff", 1<<56 - 1, api.OK},
		{"\x00\x00\x00\x00\x00\x00\x00\x00", 0, api.OK},
		{"\x00\xff\xff\xff\xff\xff\xff\xff", 1<<56 - 1, api.OK},
		{"\x7f\xff\xff\xff\xff\xff\xff\xff", math.MaxInt, api.OK},
		{"\x80\x00\x00\x00\x00\x00\x00\x00", 0, api.ErrForm},
		{"\xff\xff\xff\xff\xff\xff\xff\xff", 0, api.ErrForm},
		{"", 0, api.ErrArg},
		{"\x00\x00\x00\x00\x00\x00\x00\x00\x00", 0, api.ErrArg},
		{"\x00\x00\x00\x00\x00\x00\x00\x00\x01", 0, api.ErrArg},
		{"\xff\xff\xff\xff\xff\xff\xff\xff\xff", 0, api.ErrArg},
		{strings.Repeat("\x00", 1000), 0, api.ErrArg},
	} {
		if n, e := Number(x.s); n != x.want || e != x.e {
			t.Errorf("Number(%.20q): %d, %v; want %d, %v", x.s, n, e, x.want, x.e)
		}
	}
}

// 1.3

func TestFirst(t *testing.T) {
	l := []Field{{1, "ab"}, {3, ""}, {3, "later"}, {7, "x"}, {7, "y"}, {2, "fell"}, {0, "nought"}, {-4, "below"}}
	for _, x := range []struct {
		tag  int
		want string
		ok   bool
	}{
		{1, "ab", true}, {3, "", true}, {7, "x", true}, {2, "fell", true}, {0, "nought", true}, {-4, "below", true},
		{4, "", false}, {8, "", false}, {256 + 7, "", false}, {math.MinInt, "", false}, {math.MaxInt, "", false},
	} {
		if v, ok := First(l, x.tag); v != x.want || ok != x.ok {
			t.Errorf("First of %d: %q, %v", x.tag, v, ok)
		}
	}
	if v, ok := First(nil, 1); v != "" || ok {
		t.Errorf("First of no fields: %q, %v", v, ok)
	}
}

func TestAll(t *testing.T) {
	l := []Field{{1, "ab"}, {3, "c"}, {1, ""}, {3, "b"}, {3, "c"}, {1, "z"}, {9, "end"}}
	for tag, want := range map[int][]string{
		1: {"ab", "", "z"}, 3: {"c", "b", "c"}, 9: {"end"}, 0: nil, 2: nil, 256 + 1: nil, -1: nil, math.MinInt: nil, math.MaxInt: nil,
	} {
		if got := All(l, tag); !slices.Equal(got, want) {
			t.Errorf("All of %d: %q; want %q", tag, got, want)
		}
	}
	if got := All(nil, 1); len(got) != 0 {
		t.Errorf("All of no fields: %q", got)
	}
}

// 1.4

func TestPackedIsUnpacked(t *testing.T) {
	for _, l := range [][]Field{
		nil,
		{{1, ""}},
		{{255, text(65535)}},
		{{1, "ab"}, {1, ""}, {7, "x"}},
		{{1, "\x00"}, {2, "\x01\x00\x00"}, {2, text(256)}, {200, "\xff\xff\xff"}, {255, ""}},
	} {
		s, e := Pack(l)
		if e != api.OK {
			t.Fatalf("Pack: %v", e)
		}
		wantUnpack(t, s, l, api.OK)
	}
}

// All short texts of a few telling bytes: those that are unpacked are packed as they were.
func TestUnpackedIsPacked(t *testing.T) {
	telling := []byte{0, 1, 2, 255}
	unpacked := 0
	var walk func(s string)
	walk = func(s string) {
		l, e := Unpack(s)
		if e == api.OK {
			unpacked++
			wantPack(t, l, s, api.OK)
		} else if len(l) != 0 {
			t.Errorf("Unpack(%q): fields beside %v", s, e)
		}
		if len(s) == 7 {
			return
		}
		for _, b := range telling {
			walk(s + string([]byte{b}))
		}
	}
	walk("")
	if unpacked < 100 {
		t.Errorf("only %d texts are unpacked", unpacked)
	}
}

func TestNumberIsWhatItWasMadeOf(t *testing.T) {
	for size := 1; size <= 8; size++ {
		for bit := range min(8*size, 63) {
			for _, n := range []int{1 << bit, 1<<bit - 1, 1<<bit - 1 + 1<<bit} {
				s, e := Num(n, size)
				if m, e2 := Number(s); m != n || e != api.OK || e2 != api.OK || len(s) != size {
					t.Errorf("Number(Num(%d, %d)): %d, %v, %v", n, size, m, e, e2)
				}
				if u, e3 := Num(n, len(s)); u != s || e3 != api.OK {
					t.Errorf("Num(Number(%q)): %q, %v", s, u, e3)
				}
			}
		}
	}
}

// R3, R6

func TestNothingHandedInIsChangedOrShared(t *testing.T) {
	room := []Field{{1, "a"}, {2, "b"}, {2, "c"}, {9, "spare"}}
	l := room[:3]
	s, _ := Pack(l)
	First(l, 2)
	values := All(l, 2)
	_ = append(values, "more")
	values[0] = "other"
	if !slices.Equal(room, []Field{{1, "a"}, {2, "b"}, {2, "c"}, {9, "spare"}}) {
		t.Errorf("changed: %v", room)
	}
	if again := All(l, 2); !slices.Equal(again, []string{"b", "c"}) {
		t.Errorf("All again: %q", again)
	}
	m, _ := Unpack(s)
	m[0] = Field{5, "other"}
	wantUnpack(t, s, l, api.OK)
}
