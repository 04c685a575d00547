package poly

import (
	"hash/crc32"
	"math"
	"testing"

	"sexton/api"
)

// texts are bytes that look like chance, and are the same each time.
type texts uint64

func (x *texts) word() uint32 {
	*x = *x*6364136223846793005 + 1442695040888963407
	return uint32(*x >> 32)
}

func (x *texts) next(n int) string {
	b := make([]byte, n)
	for i := range b {
		b[i] = byte(x.word())
	}
	return string(b)
}

// bitByBit is the sum as the document's words have it.
func bitByBit(s string) int {
	r := uint32(0xFFFFFFFF)
	for i := range len(s) {
		r ^= uint32(s[i])
		for range 8 {
			low := r & 1
			r /= 2
			if low == 1 {
				r ^= 0xEDB88320
			}
		}
	}
	return int(^r)
}

var wrongSums = []int{-1, -2, 1 << 32, 1<<32 + 1, math.MinInt, math.MaxInt}

const (
	sumsTo0    = "\x9d\x0a\xd9\x6d"
	sumsToOnes = "\xff\xff\xff\xff"
	ones       = 1<<32 - 1
)

// 2.1

func TestSum(t *testing.T) {
	for s, want := range map[string]int{
		"123456789": 0xCBF43926, "": 0, "a": 0xE8B7BE43, "\x00": 0xD202EF8D, sumsTo0: 0, sumsToOnes: ones,
	} {
		if n := Sum(s); n != want {
			t.Errorf("Sum(%q): %x; want %x", s, n, want)
		}
	}
}

func TestSumIsTheOneBitByBit(t *testing.T) {
	for b := range 256 {
		s := string([]byte{byte(b)})
		if n := Sum(s); n != bitByBit(s) {
			t.Errorf("Sum(%q): %x; want %x", s, n, bitByBit(s))
		}
	}
	x := texts(1)
	for n := range 300 {
		s := x.next(n)
		if got := Sum(s); got != bitByBit(s) || got != int(crc32.ChecksumIEEE([]byte(s))) {
			t.Errorf("Sum of %d bytes: %x; want %x", n, got, bitByBit(s))
		}
	}
}

func TestMore(t *testing.T) {
	for _, x := range []struct {
		sum  int
		s    string
		want int
	}{
		{Sum("1234"), "56789", 0xCBF43926},
		{0, "123456789", 0xCBF43926},
		{0xCBF43926, "", 0xCBF43926},
		{0, "", 0},
		{ones, "", ones},
		{0, "x", Sum(sumsTo0 + "x")},
		{ones, "abc", Sum(sumsToOnes + "abc")},
	} {
		if n, e := More(x.sum, x.s); n != x.want || e != api.OK {
			t.Errorf("More(%x, %q): %x, %v; want %x", x.sum, x.s, n, e, x.want)
		}
	}
	for _, sum := range wrongSums {
		for _, s := range []string{"", "abc"} {
			if n, e := More(sum, s); n != 0 || e != api.ErrArg {
				t.Errorf("More(%d, %q): %x, %v", sum, s, n, e)
			}
		}
	}
}

func TestJoin(t *testing.T) {
	for _, x := range []struct{ a, b, n, want int }{
		{Sum("1234"), Sum("56789"), 5, 0xCBF43926},
		{0xCBF43926, 0, 0, 0xCBF43926},
		{0, 0xCBF43926, 9, 0xCBF43926},
		{0, 0, 0, 0},
		{ones, 0, 0, ones},
		{Sum("ab"), 0, 4, Sum("ab" + sumsTo0)},
		{Sum("ab"), ones, 4, Sum("ab" + sumsToOnes)},
		{ones, Sum("ab"), 2, Sum(sumsToOnes + "ab")},
		{ones, ones, 4, Sum(sumsToOnes + sumsToOnes)},
	} {
		if n, e := Join(x.a, x.b, x.n); n != x.want || e != api.OK {
			t.Errorf("Join(%x, %x, %d): %x, %v; want %x", x.a, x.b, x.n, n, e, x.want)
		}
	}
}

func TestJoinOfWrongArguments(t *testing.T) {
	wrong := func(a, b, n int) {
		t.Helper()
		if sum, e := Join(a, b, n); sum != 0 || e != api.ErrArg {
			t.Errorf("Join(%d, %d, %d): %x, %v", a, b, n, sum, e)
		}
	}
	for _, sum := range wrongSums {
		wrong(sum, 1, 5)
		wrong(1, sum, 5)
		wrong(sum, sum, -1)
	}
	for _, n := range []int{-1, 1<<20 + 1, 1 << 21, 1 << 32, math.MinInt, math.MaxInt} {
		wrong(1, 1, n)
		wrong(0, 0, n)
	}
}

// 2.2

func TestGuard(t *testing.T) {
	for s, want := range map[string]string{
		"": "\x00\x00\x00\x00", "123456789": "123456789\x26\x39\xf4\xcb", sumsToOnes: sumsToOnes + "\xff\xff\xff\xff",
	} {
		if got := Guard(s); got != want {
			t.Errorf("Guard(%q): %q; want %q", s, got, want)
		}
	}
}

func TestUnguard(t *testing.T) {
	for _, x := range []struct {
		s, want string
		e       api.Errno
	}{
		{"", "", api.ErrCut},
		{"\x00", "", api.ErrCut},
		{"ab", "", api.ErrCut},
		{"\x00\x00\x00", "", api.ErrCut},
		{"\x00\x00\x00\x00", "", api.OK},
		{"\x00\x00\x00\x01", "", api.ErrSum},
		{"\x00\x00\x00\x00\x00", "", api.ErrSum},
		{"abcd", "", api.ErrSum},
		{"123456789\x26\x39\xf4\xcb", "123456789", api.OK},
		{"123456789\xcb\xf4\x39\x26", "", api.ErrSum},
		{"123456780\x26\x39\xf4\xcb", "", api.ErrSum},
		{"123456789\x26\x39\xf4", "", api.ErrSum},
		{"123456789\x26\x39\xf4\xcb\x00", "", api.ErrSum},
	} {
		if s, e := Unguard(x.s); s != x.want || e != x.e {
			t.Errorf("Unguard(%q): %q, %v; want %q, %v", x.s, s, e, x.want, x.e)
		}
	}
}

// 2.3

func TestMoreAndJoinTellTheSumOfTheWhole(t *testing.T) {
	x := texts(2)
	s := x.next(600)
	want := bitByBit(s)
	for n := range len(s) + 1 {
		a, b := s[:n], s[n:]
		if sum, e := More(Sum(a), b); sum != want || e != api.OK {
			t.Errorf("More behind %d bytes: %x, %v; want %x", n, sum, e, want)
		}
		if sum, e := Join(Sum(a), Sum(b), len(b)); sum != want || e != api.OK {
			t.Errorf("Join behind %d bytes: %x, %v; want %x", n, sum, e, want)
		}
	}
}

func TestJoinOfLongTexts(t *testing.T) {
	x := texts(3)
	a, b := x.next(77), x.next(1<<20)
	for _, n := range []int{1<<10 - 1, 1 << 16, 1<<16 + 1, 1<<19 + 5, 1<<20 - 1, 1 << 20} {
		want, _ := More(Sum(a), b[:n])
		if sum, e := Join(Sum(a), Sum(b[:n]), n); sum != want || e != api.OK {
			t.Errorf("Join of %d bytes: %x, %v; want %x", n, sum, e, want)
		}
	}
}

func TestJoinOfThreeTexts(t *testing.T) {
	x := texts(4)
	a, b, c := x.next(10), x.next(257), x.next(31)
	ab, _ := Join(Sum(a), Sum(b), len(b))
	bc, _ := Join(Sum(b), Sum(c), len(c))
	left, _ := Join(ab, Sum(c), len(c))
	right, _ := Join(Sum(a), bc, len(b)+len(c))
	if left != right || left != Sum(a+b+c) {
		t.Errorf("Join: %x, %x; want %x", left, right, Sum(a+b+c))
	}
}

func TestGuardedIsUnguarded(t *testing.T) {
	x := texts(5)
	for n := range 300 {
		s := x.next(n)
		g := Guard(s)
		if got, e := Unguard(g); got != s || e != api.OK || len(g) != n+4 {
			t.Errorf("Unguard of %d bytes: %q, %v", n, got, e)
		}
		if got, e := Unguard(Guard(g)); got != g || e != api.OK {
			t.Errorf("Unguard of %d guarded bytes: %q, %v", n, got, e)
		}
	}
}

// 2.4

// turn turns the bits of a pattern, from bit at on, each byte's lowest first.
func turn(s string, at int, pattern uint32) string {
	b := []byte(s)
	for i := range 32 {
		if pattern>>i&1 == 1 {
			b[(at+i)/8] ^= 1 << ((at + i) % 8)
		}
	}
	return string(b)
}

// patterns are bursts of that many bits: all of up to 8, of longer ones some.
func patterns(size int, x *texts) []uint32 {
	ends := uint32(1) | 1<<(size-1)
	inner := uint32(1<<size-1) &^ ends
	l := []uint32{ends, ends | inner}
	if size <= 8 {
		for p := range uint32(1 << size) {
			l = append(l, p&inner|ends)
		}
		return l
	}
	for range 20 {
		l = append(l, x.word()&inner|ends)
	}
	return l
}

func TestBurstsAreFound(t *testing.T) {
	x := texts(6)
	for _, text := range []string{"", "a", x.next(13), "\x00\x00\x00\x00\x00\x00\x00\x00"} {
		g := Guard(text)
		for size := 1; size <= 32; size++ {
			for at := range 8*len(g) - size + 1 {
				for _, p := range patterns(size, &x) {
					if s, e := Unguard(turn(g, at, p)); s != "" || e != api.ErrSum {
						t.Errorf("Unguard of %q with burst %x at %d: %q, %v", g, p, at, s, e)
					}
				}
			}
		}
	}
}
