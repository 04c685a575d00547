package shard

import (
	"encoding/binary"
	"hash/crc32"
	"math"
	"slices"
	"testing"

	"sexton/api"
)

// chance is numbers that look like chance, and are the same each time.
type chance uint64

func (x *chance) word() uint32 {
	*x = *x*6364136223846793005 + 1442695040888963407
	return uint32(*x >> 32)
}

func (x *chance) below(n int) int { return int(x.word() % uint32(n)) }

func (x *chance) text(n int) string {
	b := make([]byte, n)
	for i := range b {
		b[i] = byte(x.word())
	}
	return string(b)
}

// mixed are the same shards in another order.
func (x *chance) mixed(l []Shard) []Shard {
	l = slices.Clone(l)
	for i := len(l) - 1; i > 0; i-- {
		j := x.below(i + 1)
		l[i], l[j] = l[j], l[i]
	}
	return l
}

// turned is a shard of which a burst of up to 32 bits of Data and Sum, one behind the other, was turned.
func (x *chance) turned(s Shard) Shard {
	size := 1 + x.below(32)
	burst := x.word()&(1<<size-1) | 1 | 1<<(size-1)
	return turn(s, x.below(8*len(s.Data)+32-size+1), burst)
}

// turn turns the bits of a burst, from bit at on, of Data and the four bytes of Sum behind it, the lowest first.
func turn(s Shard, at int, burst uint32) Shard {
	b := binary.LittleEndian.AppendUint32([]byte(s.Data), uint32(s.Sum))
	for i := range 32 {
		if burst>>i&1 == 1 {
			b[(at+i)/8] ^= 1 << ((at + i) % 8)
		}
	}
	n := len(s.Data)
	s.Data, s.Sum = string(b[:n]), int(binary.LittleEndian.Uint32(b[n:]))
	return s
}

func sum(s string) int { return int(crc32.ChecksumIEEE([]byte(s))) }

// piece is the shard of that number and those bytes.
func piece(op, number int, data string) Shard {
	return Shard{Op: op, Number: number, Data: data, Sum: sum(data)}
}

// cut is a text's manifest and its shards, cut off one behind the other.
func cut(op int, text string) (Manifest, []Shard) {
	m := Manifest{Op: op, Size: len(text), Sum: sum(text)}
	var l []Shard
	for text != "" {
		n := min(256, len(text))
		l = append(l, piece(op, len(l), text[:n]))
		text = text[n:]
	}
	return m, l
}

// model gathers as the chapter's words say.
type model struct {
	of    Manifest
	there map[int]string
}

func (x model) add(s Shard) (bool, api.Errno) {
	_, there := x.there[s.Number]
	switch {
	case s.Op != x.of.Op:
		return false, api.ErrMixed
	case s.Number < 0 || s.Number > 255 || s.Number*256 >= x.of.Size:
		return false, api.ErrForm
	case len(s.Data) != min(256, x.of.Size-s.Number*256):
		return false, api.ErrForm
	case s.Sum != sum(s.Data):
		return false, api.ErrSum
	case there:
		return false, api.OK
	}
	x.there[s.Number] = s.Data
	return true, api.OK
}

func (x model) missing() []int {
	var l []int
	for number := 0; number*256 < x.of.Size; number++ {
		if _, there := x.there[number]; !there {
			l = append(l, number)
		}
	}
	return l
}

func (x model) text() (string, api.Errno) {
	if len(x.missing()) > 0 {
		return "", api.ErrState
	}
	all := ""
	for number := range len(x.there) {
		all += x.there[number]
	}
	if sum(all) != x.of.Sum {
		return "", api.ErrSum
	}
	return all, api.OK
}

// gatherer is an assembler with its model beside it.
type gatherer struct {
	t *testing.T
	a *Assembler
	x model
}

func gather(t *testing.T, m Manifest) gatherer {
	t.Helper()
	a, e := New(m)
	if a == nil || e != api.OK {
		t.Fatalf("New(%v): %v, %v", m, a, e)
	}
	g := gatherer{t, a, model{m, map[int]string{}}}
	g.look()
	return g
}

// look holds all that the assembler tells against the model.
func (g gatherer) look() {
	g.t.Helper()
	wantStand(g.t, g.a, g.x.of, g.x.missing())
	want, wantE := g.x.text()
	wantText(g.t, g.a, want, wantE)
}

// add adds a shard to both, and looks.
func (g gatherer) add(s Shard) (bool, api.Errno) {
	g.t.Helper()
	want, wantE := g.x.add(s)
	wantAdd(g.t, g.a, s, want, wantE)
	g.look()
	return want, wantE
}

func wantAdd(t *testing.T, a *Assembler, s Shard, want bool, wantE api.Errno) {
	t.Helper()
	if is, e := a.Add(s); is != want || e != wantE {
		t.Errorf("Add of {%d %d %.20q.. of %d bytes, %x}: %v, %v; want %v, %v", s.Op, s.Number, s.Data, len(s.Data), s.Sum, is, e, want, wantE)
	}
}

func wantText(t *testing.T, a *Assembler, want string, wantE api.Errno) {
	t.Helper()
	if s, e := a.Text(); s != want || e != wantE {
		t.Errorf("Text: %.20q.. of %d bytes, %v; want %.20q.. of %d bytes, %v", s, len(s), e, want, len(want), wantE)
	}
}

func wantStand(t *testing.T, a *Assembler, of Manifest, missing []int) {
	t.Helper()
	if m := a.Of(); m != of {
		t.Errorf("Of: %v; want %v", m, of)
	}
	if l := a.Missing(); !slices.Equal(l, missing) {
		t.Errorf("Missing: %v; want %v", l, missing)
	}
}

// far are numbers that are far from all that is right.
var far = []int{math.MinInt, math.MinInt / 256, -1 << 32, -256, -2, -1, 1 << 41, 1 << 48, 1 << 55, 1 << 56, math.MaxInt/256 + 1, math.MaxInt}

// sizes are numbers of bytes that a text may have.
var sizes = []int{1, 2, 44, 255, 256, 257, 300, 511, 512, 513, 600, 65279, 65280, 65281, 65534, 65535}
