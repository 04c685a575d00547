package blob

import (
	"math"
	"slices"
	"strings"
	"testing"

	"sexton/api"
)

// runs are places and texts, by turns.
func runs(x ...any) []api.Run {
	var l []api.Run
	for i := 0; i < len(x); i += 2 {
		l = append(l, api.Run{At: x[i].(int), Data: x[i+1].(string)})
	}
	return l
}

// rightRuns are lists that are right, those at the edges among them.
func rightRuns() [][]api.Run {
	return [][]api.Run{
		nil,
		{},
		runs(0, "a"),
		runs(5, "abc"),
		runs(0, "a", 2, "b"),
		runs(0, "ab", 3, "\x00", 5, "c", 100, "de"),
		runs(1, "a", api.MaxSize-1, "b"),
		runs(api.MaxSize-3, "abc"),
		runs(api.MaxSize-1, "\x00"),
		runs(0, strings.Repeat("x", api.MaxSize)),
	}
}

// wrongRuns are lists of which one thing is not right.
func wrongRuns() [][]api.Run {
	l := [][]api.Run{
		runs(1, ""),
		runs(0, ""),
		runs(0, "a", 5, ""),
		runs(0, "a", 5, "", 9, "b"),
		runs(-1, "a"),
		runs(-1, ""),
		runs(-3, "abcdef"),
		runs(1, "a", 2, "b"),
		runs(0, "abc", 3, "d"),
		runs(0, "abc", 2, "d"),
		runs(0, "abc", 1, "d"),
		runs(0, "abc", 0, "abc"),
		runs(5, "a", 3, "b"),
		runs(5, "a", 0, "b", 9, "c"),
		runs(5, "a", -1, "b"),
		runs(0, "a", 2, "b", 3, "c"),
		runs(api.MaxSize, "a"),
		runs(api.MaxSize, ""),
		runs(api.MaxSize-1, "ab"),
		runs(0, "a", api.MaxSize-2, "abc"),
		runs(api.MaxSize-1, "ab", api.MaxSize+5, "c"),
		runs(0, strings.Repeat("x", api.MaxSize+1)),
		runs(1, strings.Repeat("x", api.MaxSize)),
	}
	for _, at := range []int{math.MinInt, math.MinInt + 1, math.MaxInt, math.MaxInt - 1} {
		l = append(l, runs(at, "ab"), runs(at, ""), runs(1, "a", at, "abc"), runs(at, "abc", 9, "a"))
	}
	return l
}

func wantCheck(t *testing.T, l []api.Run, want api.Errno) {
	t.Helper()
	if e := Check(l); e != want {
		t.Errorf("Check(%v): %v; want %v", short(l), e, want)
	}
}

func wantWrite(t *testing.T, l []api.Run, at int, data string, want []api.Run, wantE api.Errno) {
	t.Helper()
	if got, e := Write(l, at, data); !slices.Equal(got, want) || e != wantE {
		t.Errorf("Write(%v, %d, %.20q): %v, %v; want %v, %v", short(l), at, data, short(got), e, short(want), wantE)
	}
}

func wantRead(t *testing.T, l []api.Run, size, at, n int, want string, wantE api.Errno) {
	t.Helper()
	if got, e := Read(l, size, at, n); got != want || e != wantE {
		t.Errorf("Read(%v, %d, %d, %d): %q, %v; want %q, %v", short(l), size, at, n, got, e, want, wantE)
	}
}

func wantCut(t *testing.T, l []api.Run, size int, want []api.Run, wantE api.Errno) {
	t.Helper()
	if got, e := Cut(l, size); !slices.Equal(got, want) || e != wantE {
		t.Errorf("Cut(%v, %d): %v, %v; want %v, %v", short(l), size, short(got), e, short(want), wantE)
	}
}

// short is a list that can be told: of long texts their beginnings.
func short(l []api.Run) []api.Run {
	out := slices.Clone(l)
	for i := range out {
		if len(out[i].Data) > 20 {
			out[i].Data = out[i].Data[:20] + ".."
		}
	}
	return out
}

// zeros is a text of n bytes 0.
func zeros(n int) string { return strings.Repeat("\x00", n) }

// 8.1

func TestCheck(t *testing.T) {
	for _, l := range rightRuns() {
		wantCheck(t, l, api.OK)
	}
	for _, l := range wrongRuns() {
		wantCheck(t, l, api.ErrRun)
	}
}

func TestBytes(t *testing.T) {
	for _, c := range []struct {
		l    []api.Run
		want int
	}{
		{nil, 0},
		{runs(5, "abc"), 3},
		{runs(0, "ab", 3, "\x00", 5, "c", 100, "de"), 6},
		{runs(0, strings.Repeat("x", api.MaxSize)), api.MaxSize},
		{runs(1, ""), 0},
		{runs(-1, "a"), 1},
		{runs(0, "abc", 1, "d"), 4},
		{runs(5, "ab", 3, "b", 3, ""), 3},
		{runs(math.MaxInt, "abc", math.MinInt, "d"), 4},
		{runs(0, strings.Repeat("x", api.MaxSize+1)), api.MaxSize + 1},
	} {
		if n := Bytes(c.l); n != c.want {
			t.Errorf("Bytes(%v): %d; want %d", short(c.l), n, c.want)
		}
	}
}

func TestEnd(t *testing.T) {
	for _, c := range []struct {
		l    []api.Run
		want int
	}{
		{nil, 0},
		{[]api.Run{}, 0},
		{runs(0, "a"), 1},
		{runs(5, "abc"), 8},
		{runs(0, "ab", 3, "\x00", 5, "c", 100, "de"), 102},
		{runs(api.MaxSize-3, "abc"), api.MaxSize},
	} {
		if n := End(c.l); n != c.want {
			t.Errorf("End(%v): %d; want %d", short(c.l), n, c.want)
		}
	}
	for _, l := range wrongRuns() {
		if n := End(l); n != 0 {
			t.Errorf("End(%v): %d", short(l), n)
		}
	}
}

// 8.2

func TestExamples(t *testing.T) {
	l := runs(5, "abc")
	wantWrite(t, l, 8, "de", runs(5, "abcde"), api.OK)
	wantWrite(t, l, 9, "x", runs(5, "abc", 9, "x"), api.OK)
	wantCut(t, l, 6, runs(5, "a"), api.OK)
	wantRead(t, l, 20, 4, 3, "\x00ab", api.OK)
}

func TestWriteOneRun(t *testing.T) {
	l := runs(5, "abc")
	for _, c := range []struct {
		at   int
		data string
		want []api.Run
	}{
		{0, "x", runs(0, "x", 5, "abc")},
		{3, "x", runs(3, "x", 5, "abc")},
		{4, "x", runs(4, "xabc")},
		{3, "xy", runs(3, "xyabc")},
		{4, "xy", runs(4, "xybc")},
		{5, "x", runs(5, "xbc")},
		{6, "x", runs(5, "axc")},
		{7, "x", runs(5, "abx")},
		{5, "xyz", runs(5, "xyz")},
		{4, "vwxyz", runs(4, "vwxyz")},
		{7, "xy", runs(5, "abxy")},
		{8, "x", runs(5, "abcx")},
		{9, "x", runs(5, "abc", 9, "x")},
		{6, "\x00", runs(5, "a\x00c")},
		{0, "0123456789", runs(0, "0123456789")},
		{api.MaxSize - 1, "x", runs(5, "abc", api.MaxSize-1, "x")},
	} {
		wantWrite(t, l, c.at, c.data, c.want, api.OK)
	}
}

func TestWriteManyRuns(t *testing.T) {
	l := runs(2, "ab", 6, "cd", 10, "e", 12, "fgh")
	for _, c := range []struct {
		at   int
		data string
		want []api.Run
	}{
		{4, "x", runs(2, "abx", 6, "cd", 10, "e", 12, "fgh")},
		{5, "x", runs(2, "ab", 5, "xcd", 10, "e", 12, "fgh")},
		{4, "xy", runs(2, "abxycd", 10, "e", 12, "fgh")},
		{11, "x", runs(2, "ab", 6, "cd", 10, "exfgh")},
		{3, "xyz", runs(2, "axyzcd", 10, "e", 12, "fgh")},
		{8, "xyzw", runs(2, "ab", 6, "cdxyzwfgh")},
		{7, "xyzwvu", runs(2, "ab", 6, "cxyzwvugh")},
		{9, "x", runs(2, "ab", 6, "cd", 9, "xe", 12, "fgh")},
		{0, "0123456789abcde", runs(0, "0123456789abcde")},
		{0, "0123456789abcd", runs(0, "0123456789abcdh")},
		{16, "x", runs(2, "ab", 6, "cd", 10, "e", 12, "fgh", 16, "x")},
		{0, "x", runs(0, "x", 2, "ab", 6, "cd", 10, "e", 12, "fgh")},
		{0, "xy", runs(0, "xyab", 6, "cd", 10, "e", 12, "fgh")},
	} {
		wantWrite(t, l, c.at, c.data, c.want, api.OK)
	}
}

func TestWriteNothing(t *testing.T) {
	for _, l := range rightRuns() {
		for _, at := range []int{0, 1, 2, 5, 6, 7, 8, 9, 50, api.MaxSize - 1, api.MaxSize} {
			wantWrite(t, l, at, "", l, api.OK)
		}
		wantWrite(t, l, api.MaxSize+1, "", nil, api.TooFar)
		wantWrite(t, l, -1, "", nil, api.ErrArg)
	}
}

func TestWriteFar(t *testing.T) {
	l := runs(5, "abc")
	whole := strings.Repeat("x", api.MaxSize)
	wantWrite(t, l, 0, whole, runs(0, whole), api.OK)
	wantWrite(t, l, 5, whole[5:], runs(5, whole[5:]), api.OK)
	wantWrite(t, l, 8, whole[8:], runs(5, "abc"+whole[8:]), api.OK)
	wantWrite(t, l, api.MaxSize-2, "xy", runs(5, "abc", api.MaxSize-2, "xy"), api.OK)
	wantWrite(t, l, 0, whole+"x", nil, api.TooFar)
	wantWrite(t, l, 1, whole, nil, api.TooFar)
	wantWrite(t, l, api.MaxSize-1, "xy", nil, api.TooFar)
	wantWrite(t, l, api.MaxSize, "x", nil, api.TooFar)
	for _, at := range []int{api.MaxSize + 1, math.MaxInt - 1, math.MaxInt} {
		wantWrite(t, l, at, "", nil, api.TooFar)
		wantWrite(t, l, at, "xy", nil, api.TooFar)
	}
	for _, at := range []int{-1, -2, math.MinInt} {
		wantWrite(t, l, at, "x", nil, api.ErrArg)
		wantWrite(t, l, at, whole+"xy", nil, api.ErrArg)
	}
}

func TestRead(t *testing.T) {
	l := runs(5, "abc", 10, "de")
	for _, c := range []struct {
		size, at, n int
		want        string
	}{
		{20, 0, 20, "\x00\x00\x00\x00\x00abc\x00\x00de\x00\x00\x00\x00\x00\x00\x00\x00"},
		{20, 4, 3, "\x00ab"},
		{20, 5, 3, "abc"},
		{20, 6, 1, "b"},
		{20, 7, 4, "c\x00\x00d"},
		{20, 8, 2, "\x00\x00"},
		{20, 0, 5, zeros(5)},
		{20, 12, 3, zeros(3)},
		{20, 11, 9, "e" + zeros(8)},
		{20, 11, 10, "e" + zeros(8)},
		{20, 19, 2, "\x00"},
		{20, 20, 2, ""},
		{20, 21, 2, ""},
		{20, 7, 0, ""},
		{12, 9, 9, "\x00de"},
		{11, 9, 9, "\x00d"},
		{10, 9, 9, "\x00"},
		{7, 4, 9, "\x00ab"},
		{5, 4, 9, "\x00"},
		{5, 5, 9, ""},
		{1, 0, 9, "\x00"},
		{0, 0, 9, ""},
		{0, 5, 9, ""},
		{api.MaxSize, 0, api.MaxWrite, "\x00\x00\x00\x00\x00abc\x00\x00de" + zeros(500)},
		{api.MaxSize, api.MaxSize - 1, api.MaxWrite, "\x00"},
		{api.MaxSize, api.MaxSize, api.MaxWrite, ""},
		{api.MaxSize, math.MaxInt, api.MaxWrite, ""},
	} {
		wantRead(t, l, c.size, c.at, c.n, c.want, api.OK)
	}
	wantRead(t, nil, 3, 0, 9, zeros(3), api.OK)
	wantRead(t, nil, 0, 0, 0, "", api.OK)
	wantRead(t, runs(api.MaxSize-1, "z"), api.MaxSize, api.MaxSize-2, 5, "\x00z", api.OK)
}

func TestReadArguments(t *testing.T) {
	l := runs(5, "abc")
	for _, size := range []int{-1, api.MaxSize + 1, math.MinInt, math.MaxInt} {
		wantRead(t, l, size, 0, 1, "", api.ErrArg)
		wantRead(t, l, size, -1, -1, "", api.ErrArg)
	}
	for _, at := range []int{-1, -5, math.MinInt} {
		wantRead(t, l, 20, at, 1, "", api.ErrArg)
		wantRead(t, l, 20, at, 0, "", api.ErrArg)
	}
	for _, n := range []int{-1, api.MaxWrite + 1, math.MinInt, math.MaxInt} {
		wantRead(t, l, 20, 5, n, "", api.ErrArg)
		wantRead(t, l, 20, 20, n, "", api.ErrArg)
		wantRead(t, l, 0, 50, n, "", api.ErrArg)
	}
}

func TestCut(t *testing.T) {
	l := runs(5, "abc", 10, "de")
	for _, c := range []struct {
		size int
		want []api.Run
	}{
		{0, nil},
		{4, nil},
		{5, nil},
		{6, runs(5, "a")},
		{7, runs(5, "ab")},
		{8, runs(5, "abc")},
		{9, runs(5, "abc")},
		{10, runs(5, "abc")},
		{11, runs(5, "abc", 10, "d")},
		{12, l},
		{13, l},
		{api.MaxSize, l},
		{api.MaxSize + 1, l},
		{math.MaxInt, l},
	} {
		wantCut(t, l, c.size, c.want, api.OK)
	}
	wantCut(t, nil, 0, nil, api.OK)
	wantCut(t, nil, 5, nil, api.OK)
	for _, size := range []int{-1, math.MinInt} {
		wantCut(t, l, size, nil, api.ErrArg)
		wantCut(t, nil, size, nil, api.ErrArg)
	}
}

// TestWrongRuns: what is wrong with the runs comes ahead of all else.
func TestWrongRuns(t *testing.T) {
	for _, l := range wrongRuns() {
		for _, at := range []int{0, 3, -1, api.MaxSize, math.MaxInt, math.MinInt} {
			wantWrite(t, l, at, "", nil, api.ErrRun)
			wantWrite(t, l, at, "xy", nil, api.ErrRun)
			wantCut(t, l, at, nil, api.ErrRun)
			wantRead(t, l, 20, at, 5, "", api.ErrRun)
			wantRead(t, l, at, 0, -1, "", api.ErrRun)
		}
	}
}

// 8.3 and 8.4

// bytesOf is what a list has, place by place; and -1 where it has nothing.
func bytesOf(l []api.Run, size int) []int {
	b := make([]int, size)
	for i := range b {
		b[i] = -1
	}
	for _, r := range l {
		for i := range len(r.Data) {
			b[r.At+i] = int(r.Data[i])
		}
	}
	return b
}

// runsOf are the runs that have these bytes: the one list that does.
func runsOf(b []int) []api.Run {
	var l []api.Run
	for i, x := range b {
		if x < 0 {
			continue
		}
		if i == 0 || b[i-1] < 0 {
			l = append(l, api.Run{At: i})
		}
		l[len(l)-1].Data += string([]byte{byte(x)})
	}
	return l
}

// textOf are the bytes from a place on as they are read.
func textOf(b []int, size, at, n int) string {
	var out []byte
	for i := at; i < at+n && i < size; i++ {
		x := 0
		if i < len(b) {
			x = max(b[i], 0)
		}
		out = append(out, byte(x))
	}
	return string(out)
}

// TestModel: writes and cuts by turns, held against bytes in a row.
func TestModel(t *testing.T) {
	const size = 24
	x := 3
	pick := func(n int) int {
		x = x * 48271 % (1<<31 - 1)
		return x % n
	}
	for range 300 {
		var l []api.Run
		b := bytesOf(nil, size)
		for range 40 {
			at := pick(size)
			var e api.Errno
			if pick(5) == 0 {
				l, e = Cut(l, at)
				for i := at; i < size; i++ {
					b[i] = -1
				}
			} else {
				data := letters(min(pick(4), size-at), pick(26))
				l, e = Write(l, at, data)
				for i := range len(data) {
					b[at+i] = int(data[i])
				}
			}
			if e != api.OK || Check(l) != api.OK || !slices.Equal(l, runsOf(b)) {
				t.Fatalf("%v, %v; want %v", l, e, runsOf(b))
			}
			s, at, n := pick(size+5), pick(size+8), pick(size+8)
			wantRead(t, l, s, at, n, textOf(b, s, at, n), api.OK)
		}
	}
}

// letters is a text of n bytes, the first of them the i'th from 0 on.
func letters(n, i int) string {
	var b []byte
	for k := range n {
		b = append(b, byte((i+k)%26*10))
	}
	return string(b)
}

// TestCutIsNought: what was cut away is 0 when it is read again, though it lay there.
func TestCutIsNought(t *testing.T) {
	l, e := Cut(runs(0, "abcdef"), 2)
	if e != api.OK {
		t.Fatal(e)
	}
	l, e = Write(l, 5, "z")
	if e != api.OK {
		t.Fatal(e)
	}
	wantRead(t, l, 8, 0, 8, "ab\x00\x00\x00z\x00\x00", api.OK)
}

// TestOneWay: the same bytes by other ways are the same runs.
func TestOneWay(t *testing.T) {
	text := "abcdef"
	want := runs(10, text)
	for first := range len(text) {
		var l []api.Run
		for i := range len(text) {
			k := (first + i*5) % len(text)
			var e api.Errno
			if l, e = Write(l, 10+k, text[k:k+1]); e != api.OK {
				t.Fatal(e)
			}
		}
		if !slices.Equal(l, want) {
			t.Errorf("%v; want %v", l, want)
		}
		cut, e := Cut(l, 10)
		if len(cut) != 0 || e != api.OK {
			t.Errorf("Cut: %v, %v", cut, e)
		}
	}
}

// TestNewMemory: what is handed in is not changed, spare room too, and an answer shares no memory with it.
func TestNewMemory(t *testing.T) {
	room := runs(2, "ab", 6, "cd", 10, "e", 99, "spare")
	before := slices.Clone(room)
	l := room[:3]
	for _, c := range []struct {
		what string
		call func() ([]api.Run, api.Errno)
	}{
		{"Write nothing", func() ([]api.Run, api.Errno) { return Write(l, 0, "") }},
		{"Write behind", func() ([]api.Run, api.Errno) { return Write(l, 11, "xyz") }},
		{"Write at the end", func() ([]api.Run, api.Errno) { return Write(l, 20, "xyz") }},
		{"Write between", func() ([]api.Run, api.Errno) { return Write(l, 4, "xy") }},
		{"Write over all", func() ([]api.Run, api.Errno) { return Write(l, 0, "0123456789abcdef") }},
		{"Cut within", func() ([]api.Run, api.Errno) { return Cut(l, 7) }},
		{"Cut nothing", func() ([]api.Run, api.Errno) { return Cut(l, 50) }},
	} {
		first, _ := c.call()
		second, e := c.call()
		if e != api.OK || !slices.Equal(first, second) {
			t.Errorf("%s: %v, then %v, %v", c.what, first, second, e)
		}
		for i := range first {
			first[i] = api.Run{At: -7, Data: "turned"}
		}
		_ = append(first, api.Run{At: -9})
		if !slices.Equal(room, before) {
			t.Errorf("%s: changed what was handed in: %v", c.what, room)
		}
		kept := slices.Clone(second)
		third, _ := c.call()
		for i := range l {
			l[i] = api.Run{At: 1, Data: "other"}
		}
		if !slices.Equal(second, kept) || !slices.Equal(third, kept) {
			t.Errorf("%s: what was told changed: %v, %v; was %v", c.what, second, third, kept)
		}
		copy(room, before)
	}
}

// TestWithinStops: whoever goes through runs may stop at any of them.
func TestWithinStops(t *testing.T) {
	l := runs(2, "ab", 6, "cd", 10, "e")
	for stop := range 3 {
		var seen []api.Run
		for r := range within(l, 3, 11) {
			seen = append(seen, r)
			if len(seen) > stop {
				break
			}
		}
		if want := runs(3, "b", 6, "cd", 10, "e")[:stop+1]; !slices.Equal(seen, want) {
			t.Errorf("%v; want %v", seen, want)
		}
	}
}

// TestManyRuns: a list with as many runs as there may be is written, read and cut.
func TestManyRuns(t *testing.T) {
	var l []api.Run
	for at := 0; at < api.MaxSize; at += 2 {
		l = append(l, api.Run{At: at, Data: "a"})
	}
	wantCheck(t, l, api.OK)
	if Bytes(l) != api.MaxSize/2 || End(l) != api.MaxSize-1 {
		t.Errorf("Bytes %d, End %d", Bytes(l), End(l))
	}
	wantWrite(t, l, 0, strings.Repeat("x", api.MaxSize), runs(0, strings.Repeat("x", api.MaxSize)), api.OK)
	wantRead(t, l, api.MaxSize, api.MaxSize-5, 9, "\x00a\x00a\x00", api.OK)
	wantCut(t, l, 3, runs(0, "a", 2, "a"), api.OK)
}
