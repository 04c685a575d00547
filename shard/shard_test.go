package shard

import (
	"math"
	"reflect"
	"slices"
	"strings"
	"testing"

	"sexton/api"
	"sexton/mach"
	"sexton/shot"
)

const big = api.MaxBig

// 19.1

func wantSplit(t *testing.T, op int, text string) {
	t.Helper()
	wantM, want := cut(op, text)
	m, l, e := Split(op, text)
	if m != wantM || !slices.Equal(l, want) || e != api.OK {
		t.Errorf("Split(%d, %d bytes): %v, %d shards, %v; want %v, %d shards", op, len(text), m, len(l), e, wantM, len(want))
	}
}

func failsSplit(t *testing.T, op int, text string, want api.Errno) {
	t.Helper()
	if m, l, e := Split(op, text); m != (Manifest{}) || len(l) != 0 || e != want {
		t.Errorf("Split(%d, %d bytes): %v, %d shards, %v; want %v", op, len(text), m, len(l), e, want)
	}
}

func TestExample(t *testing.T) {
	m, l, e := Split(5, strings.Repeat("abc", 100))
	if e != api.OK || m.Op != 5 || m.Size != 300 || len(l) != 2 || len(l[0].Data) != 256 || len(l[1].Data) != 44 {
		t.Errorf("Split: %v, %v, %v", m, l, e)
	}
}

func TestLimits(t *testing.T) {
	if PerShard != 256 || MaxText != 65535 {
		t.Errorf("PerShard %d, MaxText %d", PerShard, MaxText)
	}
}

func TestSplit(t *testing.T) {
	x := chance(1)
	for _, n := range sizes {
		wantSplit(t, 5, x.text(n))
		wantSplit(t, 0, strings.Repeat("\x00", n))
		wantSplit(t, big, strings.Repeat("\xff", n))
	}
	for _, op := range []int{0, 1, big - 1, big} {
		wantSplit(t, op, "a")
		wantSplit(t, op, x.text(777))
	}
	wantSplit(t, 3, "123456789") // its sum is CBF43926 (hex)
	if m, l, _ := Split(3, "123456789"); m.Sum != 0xCBF43926 || l[0].Sum != 0xCBF43926 {
		t.Errorf("Split: %v, %v", m, l)
	}
}

func TestSplitWrong(t *testing.T) {
	long := []string{"", strings.Repeat("a", 65536), strings.Repeat("a", 65537), strings.Repeat("a", 1<<17)}
	for _, op := range []int{math.MinInt, -2, -1, big + 1, math.MaxInt} {
		failsSplit(t, op, "a", api.ErrArg)
		failsSplit(t, op, strings.Repeat("a", 65535), api.ErrArg)
		for _, s := range long { // op comes first
			failsSplit(t, op, s, api.ErrArg)
		}
	}
	for _, op := range []int{0, 5, big} {
		for _, s := range long {
			failsSplit(t, op, s, api.ErrLong)
		}
	}
}

func TestSplitIsNewMemory(t *testing.T) {
	text := strings.Repeat("abc", 1000)
	_, l, _ := Split(5, text)
	clear(l[:cap(l)])
	wantSplit(t, 5, text)
}

// rightManifests have each field at both ends of its range.
func rightManifests() []Manifest {
	var l []Manifest
	for _, op := range []int{0, 1, big - 1, big} {
		for _, size := range []int{1, 2, 256, 257, 65534, 65535} {
			for _, sum := range []int{0, 1, 1<<32 - 2, 1<<32 - 1} {
				l = append(l, Manifest{op, size, sum})
			}
		}
	}
	return l
}

// wrongManifests have one field or more out of its range.
func wrongManifests() []Manifest {
	l := []Manifest{{}, {-1, 0, -1}, {big + 1, 65536, 1 << 32}}
	for _, m := range []Manifest{{0, 1, 0}, {5, 300, 7}, {big, 65535, 1<<32 - 1}} {
		for _, x := range append(far, big+1) {
			l = append(l, Manifest{x, m.Size, m.Sum})
		}
		for _, x := range append(far, 0, 65536, 65537, 1<<32+1) {
			l = append(l, Manifest{m.Op, x, m.Sum})
		}
		for _, x := range append(far, 1<<32, 1<<32+1, 1<<40) {
			l = append(l, Manifest{m.Op, m.Size, x})
		}
	}
	return l
}

func TestCheck(t *testing.T) {
	for _, m := range rightManifests() {
		if e := Check(m); e != api.OK {
			t.Errorf("Check(%v): %v", m, e)
		}
	}
	for _, m := range wrongManifests() {
		if e := Check(m); e != api.ErrForm {
			t.Errorf("Check(%v): %v", m, e)
		}
	}
}

// 19.2

func TestNew(t *testing.T) {
	for _, m := range rightManifests() {
		g := gather(t, m)
		wantText(t, g.a, "", api.ErrState)
		if n := len(g.a.Missing()); n != (m.Size+255)/256 {
			t.Errorf("of %v %d shards are missing", m, n)
		}
	}
	for _, m := range wrongManifests() {
		if a, e := New(m); a != nil || e != api.ErrForm {
			t.Errorf("New(%v): %v, %v", m, a, e)
		}
	}
}

// TestGather: of texts of each size all shards, rising, falling, and mixed; each once more when it is there.
func TestGather(t *testing.T) {
	x := chance(2)
	for _, n := range sizes[:11] {
		text := x.text(n)
		m, l := cut(7, text)
		falling := slices.Clone(l)
		slices.Reverse(falling)
		for _, order := range [][]Shard{l, falling, x.mixed(l), x.mixed(l)} {
			g := gather(t, m)
			for _, s := range order {
				if is, _ := g.add(s); !is {
					t.Errorf("shard %d is not new", s.Number)
				}
				if is, _ := g.add(s); is {
					t.Errorf("shard %d is new twice", s.Number)
				}
			}
			wantStand(t, g.a, m, nil)
			wantText(t, g.a, text, api.OK)
		}
	}
}

// TestGatherLong: as many shards as there may be.
func TestGatherLong(t *testing.T) {
	x := chance(3)
	for _, n := range sizes[11:] {
		text := x.text(n)
		m, l := cut(big, text)
		a, _ := New(m)
		for i, s := range x.mixed(l) {
			wantText(t, a, "", api.ErrState)
			if len(a.Missing()) != len(l)-i {
				t.Errorf("%d are missing of %d, %d of which came", len(a.Missing()), len(l), i)
			}
			wantAdd(t, a, s, true, api.OK)
		}
		wantStand(t, a, m, nil)
		wantText(t, a, text, api.OK)
	}
}

func TestAddOfAnotherOp(t *testing.T) {
	x := chance(4)
	for _, op := range []int{0, 5, big} {
		m, l := cut(op, x.text(300))
		g := gather(t, m)
		for _, other := range []int{math.MinInt, -1, 0, 4, 5, 6, big - 1, big, big + 1, op + 1<<32, math.MaxInt} {
			if other == op {
				continue
			}
			s := l[0]
			s.Op = other
			wantAdd(t, g.a, s, false, api.ErrMixed)
			// What else is wrong with it comes behind.
			for _, s := range []Shard{{Op: other}, piece(other, 9, s.Data), piece(other, 0, "x"), {Op: other, Number: 0, Data: s.Data, Sum: 1}} {
				wantAdd(t, g.a, s, false, api.ErrMixed)
			}
		}
		g.look()
	}
}

func TestAddOfNoSuchNumber(t *testing.T) {
	x := chance(5)
	for _, n := range []int{1, 255, 256, 257, 300, 512, 513, 65280, 65281, 65535} {
		m, l := cut(5, x.text(n))
		g := gather(t, m)
		for _, number := range append(far, len(l), len(l)+1, 256, 257, 1<<32) {
			for _, data := range []string{"", "a", l[0].Data, l[len(l)-1].Data, x.text(256)} {
				wantAdd(t, g.a, piece(5, number, data), false, api.ErrForm)
				wantAdd(t, g.a, Shard{5, number, data, sum(data) ^ 1}, false, api.ErrForm)
			}
		}
		g.look()
		g.add(l[len(l)-1])
		if n := len(g.a.Missing()); n != len(l)-1 {
			t.Errorf("the last one did not come: %d are missing", n)
		}
	}
}

func TestAddOfAnotherLength(t *testing.T) {
	x := chance(6)
	for _, n := range []int{1, 2, 255, 256, 257, 300, 512, 513, 65535} {
		m, l := cut(5, x.text(n))
		g := gather(t, m)
		for _, number := range []int{0, len(l) / 2, len(l) - 1} {
			own := len(l[number].Data)
			for _, k := range []int{0, 1, own - 1, own + 1, 44, 255, 256, 257, 65535} {
				if k == own {
					continue
				}
				s := piece(5, number, x.text(k))
				wantAdd(t, g.a, s, false, api.ErrForm)
				s.Sum ^= 1 // that it has another sum comes behind
				wantAdd(t, g.a, s, false, api.ErrForm)
			}
		}
		g.look()
	}
}

func TestAddOfAnotherSum(t *testing.T) {
	x := chance(7)
	m, l := cut(5, x.text(300))
	g := gather(t, m)
	for _, s := range l {
		own := s.Sum
		for _, sum := range append(far, 0, m.Sum, own^1, own^1<<31, own+1<<32, own-1<<32, ^own) {
			s.Sum = sum
			g.add(s)
			wantAdd(t, g.a, s, false, api.ErrSum)
		}
	}
	wantStand(t, g.a, m, []int{0, 1})
}

// TestAddOfOneThatIsThere: it stays as it is; what is wrong with the other one is told all the same.
func TestAddOfOneThatIsThere(t *testing.T) {
	x := chance(8)
	text := x.text(300)
	m, l := cut(5, text)
	g := gather(t, m)
	for _, s := range l {
		wantAdd(t, g.a, s, true, api.OK)
		wantAdd(t, g.a, s, false, api.OK)
		other := piece(5, s.Number, x.text(len(s.Data)))
		wantAdd(t, g.a, other, false, api.OK)
		other.Sum ^= 4
		wantAdd(t, g.a, other, false, api.ErrSum)
		wantAdd(t, g.a, piece(5, s.Number, s.Data+"x"), false, api.ErrForm)
		wantAdd(t, g.a, piece(6, s.Number, s.Data), false, api.ErrMixed)
	}
	wantText(t, g.a, text, api.OK)
	wantAdd(t, g.a, piece(5, 0, x.text(256)), false, api.OK)
	wantText(t, g.a, text, api.OK)
}

// TestOtherDataFirst: a shard of other bytes is gathered, if it came first, and then the text is none.
func TestOtherDataFirst(t *testing.T) {
	x := chance(9)
	m, l := cut(5, x.text(600))
	for number, s := range l {
		g := gather(t, m)
		if is, e := g.add(piece(5, number, x.text(len(s.Data)))); !is || e != api.OK {
			t.Errorf("Add: %v, %v", is, e)
		}
		for _, s := range l {
			g.add(s)
		}
		wantStand(t, g.a, m, nil)
		wantText(t, g.a, "", api.ErrSum)
	}
}

func TestTextOfAnotherSum(t *testing.T) {
	x := chance(10)
	for _, n := range []int{1, 256, 300, 600, 65535} {
		text := x.text(n)
		m, l := cut(5, text)
		own := m.Sum
		for _, sum := range []int{0, 1<<32 - 1, own ^ 1, own ^ 1<<31, own ^ (1<<32 - 1)} {
			m.Sum = sum
			a, _ := New(m)
			for _, s := range l {
				wantText(t, a, "", api.ErrState)
				wantAdd(t, a, s, true, api.OK)
			}
			wantText(t, a, "", api.ErrSum)
			wantText(t, a, "", api.ErrSum)
			wantStand(t, a, m, nil)
		}
	}
}

// TestPiecesChangedOver: pieces of one length at each other's numbers are no text, though each has its sum.
func TestPiecesChangedOver(t *testing.T) {
	x := chance(11)
	m, l := cut(5, x.text(768))
	l[0].Number, l[2].Number = 2, 0
	g := gather(t, m)
	for _, s := range l {
		g.add(s)
	}
	wantText(t, g.a, "", api.ErrSum)
}

func TestMissingIsNewMemory(t *testing.T) {
	m, l := cut(5, strings.Repeat("abc", 500))
	a, _ := New(m)
	a.Add(l[3])
	missing := a.Missing()
	for i := range missing[:cap(missing)] {
		missing[:cap(missing)][i] = -7
	}
	wantStand(t, a, m, []int{0, 1, 2, 4, 5})
}

func TestAssemblersAreApart(t *testing.T) {
	text := strings.Repeat("abc", 100)
	m, l := cut(5, text)
	a, _ := New(m)
	b, _ := New(m)
	a.Add(l[0])
	b.Add(l[1])
	wantStand(t, a, m, []int{1})
	wantStand(t, b, m, []int{0})
}

func TestNilAssembler(t *testing.T) {
	var none *Assembler
	_, l := cut(0, strings.Repeat("abc", 100))
	shards := append(l, Shard{}, piece(5, 0, "a"), Shard{Op: -1, Number: -1, Sum: -1}, Shard{0, 0, "a", 1}, piece(0, 9, ""))
	// One that New did not make has no manifest either.
	for _, a := range []*Assembler{none, {}} {
		for _, s := range shards {
			wantAdd(t, a, s, false, api.ErrMixed)
			wantText(t, a, "", api.ErrState)
			wantStand(t, a, Manifest{}, nil)
		}
	}
}

// 19.3

// strange are shards that do not belong to a text of op: each of its own with bursts turned, and such of other texts.
func (x *chance) strange(op int, l []Shard) []Shard {
	var out []Shard
	for _, s := range l {
		for range 3 {
			out = append(out, x.turned(s))
		}
		s.Op = op + 1 + x.below(3)
		out = append(out, s, piece(s.Op, s.Number, x.text(len(s.Data))))
	}
	return out
}

func TestWholeOrNot(t *testing.T) {
	x := chance(12)
	for range 150 {
		text := x.text(1 + x.below(1500))
		op := x.below(1000)
		m, l := cut(op, text)
		among := slices.Concat(l, l, x.strange(op, l))
		g := gather(t, m)
		for _, s := range x.mixed(among) {
			g.add(s)
			if len(g.a.Missing()) == 0 {
				wantText(t, g.a, text, api.OK)
			} else {
				wantText(t, g.a, "", api.ErrState)
			}
		}
		wantText(t, g.a, text, api.OK)
	}
}

// TestWholeOrNotOfTwoTexts: with shards of another text of the same Op among them no other text is told, and that text if its own came first.
func TestWholeOrNotOfTwoTexts(t *testing.T) {
	x := chance(13)
	whole, none := 0, 0
	for range 300 {
		n := 1 + x.below(900)
		text := x.text(n)
		m, l := cut(5, text)
		_, others := cut(5, x.text(max(1, n-20+x.below(40))))
		g := gather(t, m)
		for _, s := range x.mixed(slices.Concat(l, l, others, x.strange(5, l))) {
			g.add(s)
		}
		if s, e := g.a.Text(); e == api.OK && s == text {
			whole++
		} else if e == api.ErrSum {
			none++
		} else {
			t.Errorf("Text: %d bytes, %v", len(s), e)
		}
	}
	if whole < 20 || none < 20 {
		t.Errorf("%d whole, %d not", whole, none)
	}
}

// TestEachBurst: wherever a burst is, the shard is not taken.
func TestEachBurst(t *testing.T) {
	x := chance(14)
	m, l := cut(5, x.text(256+13))
	for _, s := range l {
		a, _ := New(m)
		for size := 1; size <= 32; size++ {
			for at := range 8*len(s.Data) + 32 - size + 1 {
				ends := uint32(1) | 1<<(size-1)
				for _, burst := range []uint32{ends, 1<<size - 1, x.word()&(1<<size-1) | ends} {
					wantAdd(t, a, turn(s, at, burst), false, api.ErrSum)
				}
			}
		}
		wantStand(t, a, m, []int{0, 1})
	}
}

// P4

// states are whole states: new, with a folder and some files, and one whose bytes are many.
func states() []api.State {
	s := mach.New()
	s.Done = 9
	few := s
	few.Inodes = []api.Inode{
		{Gen: 1, Attr: api.Attr{Kind: api.KindDir, Links: 1, Size: 2, Stamp: 4}, Next: 3, Entries: []api.Entry{{Name: "a", Cookie: 1, To: api.Handle{No: 1, Gen: 2}}, {Name: "b", Cookie: 3, To: api.Handle{No: 2, Gen: 1}}}},
		{Gen: 2, Attr: api.Attr{Kind: api.KindFile, Links: 1, Size: 900, Stamp: 9}, Runs: []api.Run{{At: 3, Data: strings.Repeat("abc", 99)}, {At: 500, Data: "x"}}},
		{Gen: 1, Attr: api.Attr{Kind: api.KindDir, Links: 1, Stamp: 2}},
		{Gen: 5},
	}
	few.Opens = []api.Open{{Fd: 2, Client: 6, Of: api.Handle{No: 1, Gen: 2}}}
	few.Seats = []api.Seat{{Client: 6, Req: 3, Reply: "\x01\x00\x02\x01\x91"}, {Client: 8, Req: 1}}
	many := few
	many.Inodes = slices.Clone(few.Inodes)
	many.Inodes[1].Attr.Size = 1 << 20
	many.Inodes[1].Runs = nil
	for i := range 8000 {
		many.Inodes[1].Runs = append(many.Inodes[1].Runs, api.Run{At: 2 * i, Data: "r"})
	}
	return []api.State{s, few, many}
}

// TestCarried: a state that is packed, split, gathered and unpacked is that state.
func TestCarried(t *testing.T) {
	x := chance(15)
	for i, s := range states() {
		b, e := shot.Pack(s)
		if e != api.OK {
			t.Fatalf("state %d: %v", i, e)
		}
		m, l, e := Split(s.Done, b)
		if e != api.OK {
			t.Fatalf("state %d, of %d bytes: %v", i, len(b), e)
		}
		a, _ := New(m)
		for _, s := range x.mixed(slices.Concat(l, x.strange(m.Op, l))) {
			a.Add(s)
		}
		text, e := a.Text()
		if e != api.OK {
			t.Fatalf("state %d: %v", i, e)
		}
		if y, e := shot.Unpack(text); e != api.OK || !reflect.DeepEqual(y, s) {
			t.Errorf("state %d: %.300v, %v; want %.300v", i, y, e, s)
		}
	}
}
