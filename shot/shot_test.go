package shot

import (
	"encoding/hex"
	"hash/crc32"
	"reflect"
	"slices"
	"strings"
	"testing"

	"sexton/api"
	"sexton/ask"
	"sexton/mach"
)

// wantPack holds a state's bytes and its sum against what they should be; and its bytes, unpacked, against the state.
func wantPack(t *testing.T, s api.State, want string) {
	t.Helper()
	before := plain(s)
	b, e := Pack(s)
	if b != want || e != api.OK {
		t.Errorf("Pack(%.500v): %.300q, %v; want %.300q", s, b, e, want)
	}
	if n, e := Digest(s); n != int(crc32.ChecksumIEEE([]byte(want))) || e != api.OK {
		t.Errorf("Digest(%.500v): %d, %v", s, n, e)
	}
	if x, e := Unpack(want); !same(x, s) || e != api.OK {
		t.Errorf("Unpack(%.300q): %.500v, %v; want %.500v", want, x, e, s)
	}
	if !same(s, before) {
		t.Errorf("what was handed in is changed: %.500v; it was %.500v", s, before)
	}
}

// failsPack holds what is told of a state against an error, beside which nothing else is told.
func failsPack(t *testing.T, s api.State, want api.Errno) {
	t.Helper()
	if b, e := Pack(s); b != "" || e != want {
		t.Errorf("Pack(%.500v): %.300q, %v; want %v", s, b, e, want)
	}
	if n, e := Digest(s); n != 0 || e != want {
		t.Errorf("Digest(%.500v): %d, %v; want %v", s, n, e, want)
	}
}

// refused holds bytes against being no state's.
func refused(t *testing.T, b string) {
	t.Helper()
	if s, e := Unpack(b); e != api.ErrForm || !reflect.DeepEqual(s, api.State{}) {
		t.Errorf("Unpack(%.300q): %.500v, %v", b, s, e)
	}
}

// packed are a whole state's bytes.
func packed(s api.State) string {
	b, short := stateBytes(s)
	if !short || mach.Check(s) != api.OK {
		panic("no bytes of a whole state")
	}
	return b
}

// 18.1

func TestExample(t *testing.T) {
	b, _ := hex.DecodeString("010006" + "000000000000" + "02001b" + "010018" + "000000000001" + "0201" + strings.Repeat("00", 10) + strings.Repeat("00", 6))
	if len(b) != 39 {
		t.Fatalf("the example has %d bytes", len(b))
	}
	wantPack(t, mach.New(), string(b))
}

// TestBytes: each part of a state, as the chapter's words have it.
func TestBytes(t *testing.T) {
	s := api.State{
		Inodes: []api.Inode{dir(0x102, 3, 0x304, entry("name", 0x203, at(1, 0x405))), file(0x405, 1, 0x60708, 9, run(0x10, "ab"), run(0x20304, "c")), free(0x506)},
		Opens:  []api.Open{{Fd: 2, Client: 0x607, Of: at(1, 0x405)}},
		Seats:  []api.Seat{{Client: 0x708, Req: 0x809, Reply: isStale}},
		Done:   0x90a,
	}
	wantPack(t, s, "\x01\x00\x06\x00\x00\x00\x00\x09\x0a"+
		"\x02\x00\x2f"+
		"\x01\x00\x18"+"\x00\x00\x00\x00\x01\x02"+"\x02\x01\x00\x00\x00\x01\x00\x00\x00\x00\x00\x03"+"\x00\x00\x00\x00\x03\x04"+
		"\x03\x00\x11"+"\x00\x00\x00\x00\x02\x03"+"\x01"+"\x00\x00\x00\x00\x04\x05"+"name"+
		"\x02\x00\x2c"+
		"\x01\x00\x18"+"\x00\x00\x00\x00\x04\x05"+"\x01\x01\x00\x06\x07\x08\x00\x00\x00\x00\x00\x09"+"\x00\x00\x00\x00\x00\x00"+
		"\x02\x00\x06"+"\x00\x00\x00\x10"+"ab"+
		"\x02\x00\x05"+"\x00\x02\x03\x04"+"c"+
		"\x02\x00\x1b"+
		"\x01\x00\x18"+"\x00\x00\x00\x00\x05\x06"+strings.Repeat("\x00", 18)+
		"\x03\x00\x0e"+"\x02"+"\x00\x00\x00\x00\x06\x07"+"\x01"+"\x00\x00\x00\x00\x04\x05"+
		"\x04\x00\x11"+"\x00\x00\x00\x00\x07\x08"+"\x00\x00\x00\x00\x08\x09"+isStale)
}

func TestPack(t *testing.T) {
	for _, s := range rightStates() {
		wantPack(t, s, packed(s))
	}
}

func TestPackWrong(t *testing.T) {
	for i, s := range wrongStates() {
		if mach.Check(s) == api.OK {
			t.Errorf("wrong state %d is whole", i)
		}
		failsPack(t, s, api.ErrForm)
	}
}

// TestPackLong: a value may have 65535 bytes, and not one more.
func TestPackLong(t *testing.T) {
	for _, s := range []api.State{crowd(1364, 20), sieve(8188, 4)} {
		if n := max(len(inodeBytes(s.Inodes[0])), len(inodeBytes(s.Inodes[1]))); n != 65535 {
			t.Errorf("the longest value has %d bytes", n)
		}
	}
	if n := len(inodeBytes(longStates()[0].Inodes[0])); n != 65536 {
		t.Errorf("the least value that is too long has %d bytes", n)
	}
	for i, s := range longStates() {
		if mach.Check(s) != api.OK {
			t.Errorf("long state %d is not whole", i)
		}
		failsPack(t, s, api.ErrLong)
	}
	// That it is not whole comes first.
	for _, s := range longStates() {
		failsPack(t, changed(s, func(s *api.State) { s.Done = -1 }), api.ErrForm)
		failsPack(t, changed(s, func(s *api.State) { s.Seats = []api.Seat{{Client: 5, Req: 1, Reply: "x"}} }), api.ErrForm)
	}
}

// TestUnpackWrongStates: bytes of states that are not whole are no state's.
func TestUnpackWrongStates(t *testing.T) {
	for _, s := range wrongStates() {
		// Of numbers that are below 0 or too great for their bytes, the bytes are those of another one.
		b, _ := stateBytes(s)
		if x, ok := parse(b); ok {
			wantPack(t, x, b)
		} else {
			refused(t, b)
		}
	}
	for _, s := range longStates() {
		b, _ := stateBytes(s)
		refused(t, b)
	}
	// A number that its bytes can have, and a state can not.
	for _, n := range []int{api.MaxBig + 1, 1<<48 - 1} {
		for _, f := range []func(*api.State){
			func(s *api.State) { s.Done = n }, func(s *api.State) { s.Inodes[0].Gen = n }, func(s *api.State) { s.Inodes[4].Gen = n }, func(s *api.State) { s.Inodes[0].Next = n }, func(s *api.State) { s.Inodes[3].Next = n },
			func(s *api.State) { s.Done, s.Inodes[0].Attr.Stamp = api.MaxBig, n }, func(s *api.State) { s.Inodes[0].Entries[1].Cookie = n }, func(s *api.State) { s.Inodes[0].Entries[1].To.Gen = n },
			func(s *api.State) { s.Opens[1].Client = n }, func(s *api.State) { s.Opens[1].Of.Gen = n }, func(s *api.State) { s.Seats[1].Client = n }, func(s *api.State) { s.Seats[1].Req = n },
		} {
			b, _ := stateBytes(changed(some(), f))
			refused(t, b)
		}
	}
	for _, f := range []func(*api.State){
		func(s *api.State) { s.Inodes[2].Attr.Kind = 3 }, func(s *api.State) { s.Inodes[2].Attr.Kind = 255 }, func(s *api.State) { s.Inodes[4].Attr.Kind = 3 }, func(s *api.State) { s.Inodes[4].Attr.Links = 1 }, func(s *api.State) { s.Inodes[3].Attr.Links = 2 },
		func(s *api.State) { s.Inodes[2].Attr.Links = 65 }, func(s *api.State) { s.Inodes[2].Attr.Size = 1<<20 + 1 }, func(s *api.State) { s.Inodes[2].Attr.Size = 1<<32 - 1 }, func(s *api.State) { s.Inodes[2].Runs[1].At = 1<<32 - 1 },
		func(s *api.State) { s.Inodes[0].Entries[1].To.No = 255 }, func(s *api.State) { s.Opens[1].Fd = 255 }, func(s *api.State) { s.Opens[1].Of.No = 255 }, func(s *api.State) { s.Opens[0], s.Opens[1] = s.Opens[1], s.Opens[0] }, func(s *api.State) { s.Seats[0], s.Seats[1] = s.Seats[1], s.Seats[0] },
	} {
		b, _ := stateBytes(changed(some(), f))
		refused(t, b)
	}
}

// split are the fields that bytes are, each with its head.
func split(b string) []string {
	var l []string
	for b != "" {
		n := 3 + int(b[1])<<8 + int(b[2])
		l = append(l, b[:n])
		b = b[n:]
	}
	return l
}

// bends are lists of fields like l, and near it: with one less, one twice, two changed over, one of another tag, one with a byte more or less, one with nothing in it, one more.
func bends(l []string) [][]string {
	var out [][]string
	put := func(i int, x string) {
		y := slices.Clone(l)
		y[i] = x
		out = append(out, y)
	}
	for i, f := range l {
		tag, value := int(f[0]), f[3:]
		out = append(out, slices.Delete(slices.Clone(l), i, i+1), slices.Insert(slices.Clone(l), i, f))
		for _, j := range []int{0, 1, 2, 3, 4, 5, 6, 255} {
			put(i, field(j, value))
		}
		put(i, field(tag, value+"\x00"))
		put(i, field(tag, "\x00"+value))
		put(i, field(tag, value[1:]))
		put(i, field(tag, value[:len(value)-1]))
		put(i, field(tag, ""))
		if i > 0 {
			y := slices.Clone(l)
			y[i-1], y[i] = y[i], y[i-1]
			out = append(out, y)
		}
	}
	for _, f := range []string{field(0, ""), field(1, big(3, 6)), field(2, ""), field(2, inodeBytes(free(1))), field(3, ""), field(4, ""), field(5, ""), field(5, "x"), field(255, "x")} {
		for i := range len(l) + 1 {
			out = append(out, slices.Insert(slices.Clone(l), i, f))
		}
	}
	return out
}

// wantUnpack holds what bytes are against what the chapter's words have of them, and tells whether they are a state.
func wantUnpack(t *testing.T, b string) bool {
	t.Helper()
	x, ok := parse(b)
	if ok {
		wantPack(t, x, b)
	} else {
		refused(t, b)
	}
	return ok
}

// TestUnpackFields: fields that are missing, too many, out of order, of another tag, too short, too long.
func TestUnpackFields(t *testing.T) {
	right, wrong := 0, 0
	held := func(b string) {
		if wantUnpack(t, b) {
			right++
		} else {
			wrong++
		}
	}
	for _, s := range []api.State{mach.New(), some(), great()} {
		fields := split(packed(s))
		for _, l := range bends(fields) {
			held(strings.Join(l, ""))
		}
		for i, f := range fields {
			if f[0] == 2 {
				for _, l := range bends(split(f[3:])) {
					y := slices.Clone(fields)
					y[i] = field(2, strings.Join(l, ""))
					held(strings.Join(y, ""))
				}
			}
		}
	}
	if right < 10 || wrong < 1000 {
		t.Errorf("states: %d, no states: %d", right, wrong)
	}
}

func TestUnpackWrong(t *testing.T) {
	b := packed(some())
	var ends []int
	for i := range len(b) {
		if wantUnpack(t, b[:i]) {
			ends = append(ends, i)
		}
		if i > 0 {
			refused(t, b[i:])
		}
		refused(t, b[:i]+b[i+1:])
	}
	// Ahead of the inode that is free, of the file without a name, of the second open file, and of the seats.
	if !slices.Equal(ends, []int{216, 246, 303, 320, 340}) {
		t.Errorf("what is a state of %d bytes: %v", len(b), ends)
	}
	for _, x := range []string{
		"", "\x00", "x", "\x01", "\x01\x00\x00", field(1, big(0, 6)), field(1, big(0, 5)), strings.Repeat("\x00", 39), strings.Repeat("x", 5000), b + "x", b + "\x00", b + b, "\x00" + b, b + field(4, ""), b + "\x05\x00\x00", b + "\x04\x00", "\x01\x00\x06",
		field(1, big(0, 6)) + field(2, ""), field(1, big(0, 6)) + field(2, "x"), strings.Repeat(field(2, ""), 20000), field(1, big(0, 6)) + strings.Repeat(field(2, inodeBytes(dir(1, 0, 0))), 24),
		field(1, big(0, 6)) + field(2, inodeBytes(dir(1, 0, 0))) + strings.Repeat(field(2, inodeBytes(free(1))), 24),
	} {
		refused(t, x)
	}
	if x := field(1, big(0, 6)) + field(2, inodeBytes(dir(1, 0, 0))) + strings.Repeat(field(2, inodeBytes(free(1))), 23); !wantUnpack(t, x) {
		t.Errorf("24 inodes: no state")
	}
}

// 18.2

// TestTurned: where bits are turned, the bytes are another state's or none's; and what is unpacked is packed so again.
func TestTurned(t *testing.T) {
	held := map[bool]int{}
	for _, s := range []api.State{mach.New(), some(), crowd(3, 5), sieve(4, 3)} {
		b := packed(s)
		for i := range len(b) {
			for _, by := range []byte{1, 2, 4, 8, 16, 32, 64, 128, 255} {
				x := []byte(b)
				x[i] ^= by
				ok := wantUnpack(t, string(x))
				held[ok]++
				if y, e := Unpack(string(x)); ok && (e != api.OK || same(y, s)) {
					t.Fatalf("byte %d turned by %d: the same state, %v", i, by, e)
				}
			}
		}
	}
	if held[true] < 300 || held[false] < 1000 {
		t.Errorf("states: %d, no states: %d", held[true], held[false])
	}
}

// TestOneForm: of states that differ the bytes do.
func TestOneForm(t *testing.T) {
	l := rightStates()
	for i, a := range l {
		for j, b := range l {
			x, _ := Pack(a)
			y, _ := Pack(b)
			if (x == y) != same(a, b) {
				t.Errorf("states %d and %d: the bytes are the same: %v", i, j, x == y)
			}
		}
	}
	// A list of nothing may be nil or empty.
	s := mach.New()
	s.Opens, s.Seats, s.Inodes[0].Runs, s.Inodes[0].Entries = []api.Open{}, []api.Seat{}, []api.Run{}, []api.Entry{}
	wantPack(t, s, packed(mach.New()))
}

// TestWalk: of the states that a machine comes by, what was packed is unpacked, and a machine goes on from it as from the state (P4).
func TestWalk(t *testing.T) {
	s, r := mach.New(), 1
	below := func(n int) int {
		r = r * 48271 % (1<<31 - 1)
		return r >> 4 % n
	}
	most := 0
	for i := range 1500 {
		h := at(below(8), 1+below(3))
		if below(2) == 0 {
			h = at(0, 1)
		}
		c := []api.Call{
			{Kind: api.CallMake, H: h, Name: strings.Repeat("n", 1+below(9))}, {Kind: api.CallFolder, H: h, Name: strings.Repeat("d", 1+below(5))}, {Kind: api.CallWrite, H: h, At: below(3000), Data: strings.Repeat("w", below(100))},
			{Kind: api.CallUnlink, H: h, Name: strings.Repeat("n", 1+below(9))}, {Kind: api.CallLink, H: at(below(8), 1), H2: h, Name: strings.Repeat("n", 1+below(9))}, {Kind: api.CallOpen, H: h}, {Kind: api.CallClose, N: below(9)}, {Kind: api.CallList, H: h, N: 9},
		}[below(8)]
		body, _ := ask.Pack(c)
		x := api.Item{Client: below(7), Req: i + 1, Body: body}
		b, _ := Pack(s)
		y, e := Unpack(b)
		if e != api.OK || !same(y, s) {
			t.Fatalf("Unpack(%.300q): %v, %v; want %v", b, y, e, s)
		}
		next, told, e := mach.Do(s, x)
		other, told2, f := mach.Do(y, x)
		if e != api.OK || f != api.OK || told != told2 || !same(next, other) {
			t.Fatalf("behind %v: %v, %q, %v; of what was unpacked %v, %q, %v", x, next, told, e, other, told2, f)
		}
		s = next
		if i%20 == 0 {
			wantPack(t, s, packed(s))
		}
		most = max(most, len(b))
	}
	if most < 1500 {
		t.Errorf("the greatest state had %d bytes", most)
	}
}

// TestMemory: what is handed in is not changed, spare room too; what is told is new.
func TestMemory(t *testing.T) {
	full := func(s api.State) api.State {
		s.Inodes, s.Opens, s.Seats = s.Inodes[:cap(s.Inodes)], s.Opens[:cap(s.Opens)], s.Seats[:cap(s.Seats)]
		for i, x := range s.Inodes {
			s.Inodes[i].Runs, s.Inodes[i].Entries = x.Runs[:cap(x.Runs)], x.Entries[:cap(x.Entries)]
		}
		return s
	}
	s := some()
	b, _ := Pack(s)
	Digest(s)
	if !same(full(s), full(some())) {
		t.Errorf("what was handed in is changed: %v", s)
	}
	x, _ := Unpack(b)
	for i := range x.Inodes {
		clear(x.Inodes[i].Runs[:cap(x.Inodes[i].Runs)])
		clear(x.Inodes[i].Entries[:cap(x.Inodes[i].Entries)])
	}
	clear(x.Inodes[:cap(x.Inodes)])
	clear(x.Opens[:cap(x.Opens)])
	clear(x.Seats[:cap(x.Seats)])
	if y, e := Unpack(b); e != api.OK || !same(y, some()) {
		t.Errorf("Unpack again: %v, %v", y, e)
	}
	// What is put behind a list that was told is not seen in another one.
	x, _ = Unpack(b)
	for i := range x.Inodes {
		x.Inodes[i].Runs = append(x.Inodes[i].Runs, run(9999, "x"))
		x.Inodes[i].Entries = append(x.Inodes[i].Entries, entry("x", 9999, at(1, 1)))
	}
	for i := range x.Inodes {
		x.Inodes[i].Runs, x.Inodes[i].Entries = x.Inodes[i].Runs[:len(x.Inodes[i].Runs)-1], x.Inodes[i].Entries[:len(x.Inodes[i].Entries)-1]
	}
	if !same(x, some()) {
		t.Errorf("lists of one state share memory: %v", x)
	}
}

// TestTotal: every call ends, none panics, whatever the bytes are (P1).
func TestTotal(t *testing.T) {
	r := 7
	for i := range 3000 {
		b := make([]byte, i%70)
		for j := range b {
			r = r * 48271 % (1<<31 - 1)
			b[j] = byte(r >> 9)
			if r>>20%3 > 0 {
				b[j] %= 5
			}
		}
		wantUnpack(t, string(b))
	}
	for _, s := range append(append(rightStates(), longStates()...), wrongStates()...) {
		b, e := Pack(s)
		n, f := Digest(s)
		if e != f || e != api.OK && (b != "" || n != 0) {
			t.Errorf("%.500v: %.300q, %v, %d, %v", s, b, e, n, f)
		}
	}
}
