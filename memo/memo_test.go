package memo

import (
	"encoding/hex"
	"math"
	"slices"
	"strings"
	"testing"

	"sexton/api"
	"sexton/shard"
)

func TestExample(t *testing.T) {
	m := Memo{Kind: Change, View: 2}
	s, e := Pack(m)
	if len(s) != 17 || hex.EncodeToString([]byte(s[:13])) != "01000105020006000000000002" || e != api.OK {
		t.Errorf("Pack: %x, %v", s, e)
	}
	if s[13:] != guarded(s[:13])[13:] {
		t.Errorf("the sum is %x", s[13:])
	}
	wantRight(t, m)
}

func TestConstants(t *testing.T) {
	kinds := []int{Request, Told, Prepare, Ack, Change, Offer, Start, Want, Recover, Inform, Fetch, Piece}
	for i, kind := range kinds {
		if kind != i+1 {
			t.Errorf("kind %d is %d", i+1, kind)
		}
	}
	if MaxBytes != 60000 {
		t.Errorf("MaxBytes: %d", MaxBytes)
	}
}

// 22.1

// TestBytes: each field, as the chapter's words have it.
func TestBytes(t *testing.T) {
	m := Memo{
		Kind: Offer, View: 0x102, Normal: 0x203, Op: 0x304, Commit: 0x405, Base: 0x506, Low: 0x607, Client: 0x708,
		Lives:  []int{0x809, 0, 0x1_00_00_00_00_00},
		Items:  []api.Item{{View: 0x90a, Client: 0xa0b, Req: 0xb0c, Body: "body"}, {Req: 1}},
		Man:    shard.Manifest{Op: 0xc0d, Size: 0xd0e, Sum: 0xe0f1011},
		Number: 0x1112,
		Data:   "data",
	}
	want := guarded("\x01\x00\x01\x06" +
		"\x02\x00\x06\x00\x00\x00\x00\x01\x02" +
		"\x03\x00\x06\x00\x00\x00\x00\x02\x03" +
		"\x04\x00\x06\x00\x00\x00\x00\x03\x04" +
		"\x05\x00\x06\x00\x00\x00\x00\x04\x05" +
		"\x06\x00\x06\x00\x00\x00\x00\x05\x06" +
		"\x07\x00\x06\x00\x00\x00\x00\x06\x07" +
		"\x08\x00\x06\x00\x00\x00\x00\x07\x08" +
		"\x09\x00\x06\x00\x00\x00\x00\x08\x09" + "\x09\x00\x06\x00\x00\x00\x00\x00\x00" + "\x09\x00\x06\x01\x00\x00\x00\x00\x00" +
		"\x0a\x00\x16\x00\x00\x00\x00\x09\x0a\x00\x00\x00\x00\x0a\x0b\x00\x00\x00\x00\x0b\x0cbody" +
		"\x0a\x00\x12\x00\x00\x00\x00\x00\x00\x00\x00\x00\x00\x00\x00\x00\x00\x00\x00\x00\x01" +
		"\x0b\x00\x0c\x00\x00\x00\x00\x0c\x0d\x0d\x0e\x0e\x0f\x10\x11" +
		"\x0c\x00\x02\x11\x12" +
		"\x0d\x00\x04data")
	if s, e := Pack(m); s != want || e != api.OK {
		t.Errorf("Pack: %x, %v; want %x", s, e, want)
	}
	wantRight(t, m)
}

func TestKinds(t *testing.T) {
	for _, m := range []Memo{{}, {View: 2}, full(), great()} {
		for kind := range 14 {
			m.Kind = kind
			if kind >= 1 && kind <= 12 {
				wantRight(t, m)
			} else {
				wantWrong(t, m)
			}
		}
		for _, kind := range []int{math.MinInt, -1, 255, 256, 257, 1<<32 + 1, math.MaxInt} {
			m.Kind = kind
			wantWrong(t, m)
		}
	}
}

func TestBigNumbers(t *testing.T) {
	for _, f := range bigFields() {
		for _, n := range []int{0, 1, 255, 256, api.MaxBig - 1, api.MaxBig} {
			wantRight(t, changed(full(), func(m *Memo) { *f(m) = n }))
		}
		for _, n := range outside {
			wantWrong(t, changed(full(), func(m *Memo) { *f(m) = n }))
		}
	}
	// Each field alone: what is of the zero value is left out.
	for _, f := range bigFields()[:7] {
		for _, n := range []int{0, 1, api.MaxBig} {
			m := Memo{Kind: Request}
			*f(&m) = n
			wantRight(t, m)
			if s, _ := Pack(m); (len(s) == 8) != (n == 0) {
				t.Errorf("Pack(%v): %d bytes", m, len(s))
			}
		}
	}
}

func TestLives(t *testing.T) {
	for n := range 12 {
		for _, nonce := range []int{0, 7, api.MaxBig} {
			m := Memo{Kind: Want, Lives: slices.Repeat([]int{nonce}, n)}
			switch n {
			case 0, 1, 3, 5, 7:
				wantRight(t, m)
			default:
				wantWrong(t, m)
			}
		}
	}
	for _, n := range []int{1, 3, 5, 7} {
		for i := range n {
			for _, x := range outside {
				m := Memo{Kind: Want, Lives: make([]int, n)}
				m.Lives[i] = x
				wantWrong(t, m)
			}
		}
	}
	wantRight(t, Memo{Kind: Want, Lives: []int{}, Items: []api.Item{}})
	wantWrong(t, Memo{Kind: Want, Lives: make([]int, 65537)})
}

func TestItems(t *testing.T) {
	for _, n := range []int{0, 1, 2, 255, 256} {
		wantRight(t, Memo{Kind: Start, Items: someItems(n, 3)})
	}
	for _, n := range []int{257, 258, 512, 65537} {
		wantWrong(t, Memo{Kind: Start, Items: someItems(n, 3)})
	}
	for _, x := range []api.Item{{Req: 1}, {Req: api.MaxBig}, {View: api.MaxBig, Req: 1}, {Client: api.MaxBig, Req: 1}, {Req: 1, Body: strings.Repeat("\x00", 4096)}} {
		for i := range 3 {
			m := Memo{Kind: Start, Items: someItems(3, 3)}
			m.Items[i] = x
			wantRight(t, m)
		}
	}
	wrong := []api.Item{{}, {View: 1, Client: 1}, {Req: 1, Body: strings.Repeat("b", 4097)}, {Req: 1, Body: strings.Repeat("b", 70000)}}
	for _, n := range outside {
		wrong = append(wrong, api.Item{Req: n}, api.Item{View: n, Req: 1}, api.Item{Client: n, Req: 1})
	}
	for _, x := range wrong {
		for _, i := range []int{0, 1, 255} {
			m := Memo{Kind: Start, Items: someItems(256, 3)}
			m.Items[i] = x
			wantWrong(t, m)
		}
	}
}

// TestItemsInAnyOrder: each item is right by itself; a memo's Views may fall, as no log's may.
func TestItemsInAnyOrder(t *testing.T) {
	wantRight(t, Memo{Kind: Offer, Items: []api.Item{{View: 9, Req: 2}, {View: 3, Req: 1}, {View: 3, Req: 1}, {View: api.MaxBig, Req: 1}, {View: 0, Req: 1}}})
}

func TestMan(t *testing.T) {
	for _, x := range []shard.Manifest{
		{}, {Size: 1}, {Size: 65535}, {Op: 1, Size: 1}, {Op: api.MaxBig, Size: 1}, {Size: 1, Sum: 1}, {Size: 1, Sum: 1<<32 - 1}, {Op: 5, Size: 300, Sum: 7},
	} {
		wantRight(t, Memo{Kind: Inform, Man: x})
		wantRight(t, changed(full(), func(m *Memo) { m.Man = x }))
	}
	wrong := []shard.Manifest{{Op: 1}, {Sum: 1}, {Op: 1, Sum: 1}, {Size: -1}, {Size: 65536}, {Op: 5, Size: 65536}, {Size: 65537}, {Size: 1, Sum: -1}, {Size: 1, Sum: 1 << 32}, {Size: 1, Sum: 1<<32 + 1}, {Size: math.MaxInt}, {Size: math.MinInt}, {Size: 1, Sum: math.MinInt}, {Size: 1, Sum: math.MaxInt}}
	for _, n := range outside {
		wrong = append(wrong, shard.Manifest{Op: n}, shard.Manifest{Op: n, Size: 1})
	}
	for _, x := range wrong {
		wantWrong(t, Memo{Kind: Inform, Man: x})
		wantWrong(t, changed(full(), func(m *Memo) { m.Man = x }))
	}
}

func TestNumber(t *testing.T) {
	for _, n := range []int{0, 1, 255, 256, 65534, 65535} {
		wantRight(t, Memo{Kind: Fetch, Number: n})
		wantRight(t, changed(full(), func(m *Memo) { m.Number = n }))
	}
	for _, n := range []int{math.MinInt, -65536, -1, 65536, 65537, 1 << 32, math.MaxInt} {
		wantWrong(t, Memo{Kind: Fetch, Number: n})
		wantWrong(t, changed(full(), func(m *Memo) { m.Number = n }))
	}
}

func TestData(t *testing.T) {
	for _, n := range []int{0, 1, 255, 256, 8191, 8192} {
		for _, c := range []string{"\x00", "d", "\xff"} {
			wantRight(t, Memo{Kind: Piece, Data: strings.Repeat(c, n)})
			wantRight(t, changed(full(), func(m *Memo) { m.Data = strings.Repeat(c, n) }))
		}
	}
	for _, n := range []int{8193, 8194, 65535, 65536, 70000} {
		wantWrong(t, Memo{Kind: Piece, Data: strings.Repeat("d", n)})
	}
}

func TestRightAndWrong(t *testing.T) {
	for _, m := range []Memo{full(), great()} {
		wantRight(t, m)
	}
	x := chance(1)
	for range 2000 {
		wantRight(t, x.memo())
	}
}

// TestLong: MaxBytes bytes, and one more.
func TestLong(t *testing.T) {
	for _, n := range []int{59000, 59998, 59999, 60000} {
		m := ofSize(n)
		if len(packed(m)) != n {
			t.Fatalf("a memo of %d bytes has %d", n, len(packed(m)))
		}
		wantRight(t, m)
	}
	for _, n := range []int{60001, 60002, 60003, 60004, 60005, 61000} {
		wantLong(t, ofSize(n))
	}
	for _, m := range []Memo{
		{Kind: Start, Items: someItems(15, 4096)}, {Kind: Start, Items: someItems(256, 4096)}, {Kind: Start, Items: someItems(256, 214)},
		changed(great(), func(m *Memo) { m.Items = someItems(256, 4096) }),
	} {
		wantLong(t, m)
	}
	// That it is not right comes first.
	for _, f := range []func(*Memo){
		func(m *Memo) { m.Kind = 0 }, func(m *Memo) { m.Low = -1 }, func(m *Memo) { m.Lives = []int{1, 2} }, func(m *Memo) { m.Items[14].Req = 0 }, func(m *Memo) { m.Man.Op = 1 }, func(m *Memo) { m.Number = -1 }, func(m *Memo) { m.Data = strings.Repeat("d", 8193) },
	} {
		wantWrong(t, changed(ofSize(60001), f))
	}
}

// TestUnpackLong: that bytes are too many comes ahead of whatever they are.
func TestUnpackLong(t *testing.T) {
	for _, c := range []string{"\x00", "\x01", "x", "\xff"} {
		refused(t, strings.Repeat(c, 59999))
		refused(t, strings.Repeat(c, 60000))
		fails(t, strings.Repeat(c, 60001), api.ErrLong)
		fails(t, strings.Repeat(c, 200000), api.ErrLong)
	}
	s := packed(ofSize(60000))
	fails(t, s+"\x00", api.ErrLong)
	refused(t, s[:59999])
	refused(t, s[:59999]+"\x00")
}

func TestUnpackCut(t *testing.T) {
	x := chance(2)
	l := []Memo{{Kind: Change, View: 2}, full(), {Kind: Told}}
	for range 20 {
		l = append(l, x.memo())
	}
	for _, m := range l {
		s := packed(m)
		for i := range len(s) {
			refused(t, s[:i])
			refused(t, s[i+1:])
			refused(t, s[:i]+s[i+1:])
		}
		for _, c := range []string{"\x00", "\x01", "x", "\xff", s, strings.Repeat("\x00", 4)} {
			refused(t, s+c)
			refused(t, c+s)
		}
		// The fields that it begins with, and those with a byte more, with a sum of their own.
		text := s[:len(s)-4]
		right := 0
		for i := range len(text) + 1 {
			if held(t, guarded(text[:i])) {
				right++
			}
			held(t, guarded(text[i:]))
			held(t, guarded(text[:i]+"\x00"+text[i:]))
		}
		if right == 0 || !held(t, s) {
			t.Errorf("%d beginnings of %v are memos", right, m)
		}
	}
	for _, s := range []string{"", "\x00", "\x00\x00\x00", "\x00\x00\x00\x00", "\x00\x00\x00\x00\x00", guarded("\x01"), guarded("\x01\x00"), guarded("\x01\x00\x00"), guarded("x"), guarded(strings.Repeat("x", 5000))} {
		refused(t, s)
	}
}

// bends are lists of fields near l: with one less, one twice, two changed over, one of another tag, one with a byte more or less, one with nothing or noughts in it, one more.
func bends(l []string) [][]string {
	var out [][]string
	put := func(i int, x string) {
		y := slices.Clone(l)
		y[i] = x
		out = append(out, y)
	}
	for i, f := range l {
		tag, value := int(f[0]), f[3:]
		out = append(out, slices.Delete(slices.Clone(l), i, i+1), slices.Insert(slices.Clone(l), i, f))
		for _, j := range []int{0, 1, 2, 3, 4, 5, 6, 7, 8, 9, 10, 11, 12, 13, 14, 15, 255} {
			put(i, field(j, value))
		}
		less := max(0, len(value)-1)
		for _, v := range []string{value + "\x00", value + "x", "\x00" + value, value[len(value)-less:], value[:less], "", strings.Repeat("\x00", len(value)), strings.Repeat("\xff", len(value)), value + value} {
			put(i, field(tag, v))
		}
		for j := range i {
			y := slices.Clone(l)
			y[j], y[i] = y[i], y[j]
			out = append(out, y)
		}
	}
	for _, f := range []string{
		field(0, ""), field(1, "\x01"), field(1, "\x00"), field(2, big(1, 6)), field(2, big(0, 6)), field(8, big(0, 6)), field(9, big(0, 6)), field(9, ""), field(10, ""), field(10, itemBytes(api.Item{Req: 1})), field(10, itemBytes(api.Item{})),
		field(11, ""), field(11, manBytes(shard.Manifest{})), field(11, manBytes(shard.Manifest{Size: 1})), field(12, ""), field(12, big(0, 2)), field(12, big(1, 2)), field(13, ""), field(13, "\x00"), field(14, ""), field(14, "x"), field(255, "x"),
	} {
		for i := range len(l) + 1 {
			out = append(out, slices.Insert(slices.Clone(l), i, f))
		}
	}
	return out
}

// TestUnpackFields: guarded fields that are no memo's, and some that are another one's.
func TestUnpackFields(t *testing.T) {
	right, wrong := 0, 0
	count := func(l []string) {
		if held(t, guarded(plain(l))) {
			right++
		} else {
			wrong++
		}
	}
	x := chance(3)
	l := []Memo{full(), {Kind: Told}, {Kind: Change, View: 2}, {Kind: Want, Lives: []int{1}}, {Kind: Piece, Op: 3, Number: 1, Data: "x"}}
	for range 20 {
		l = append(l, x.memo())
	}
	for _, m := range l {
		for _, fields := range bends(parts(m)) {
			count(fields)
		}
	}
	for range 300 { // two things at once
		once := bends(parts(x.memo()))
		for range 10 {
			fields := once[x.below(len(once))]
			if len(fields) > 0 {
				twice := bends(fields)
				count(twice[x.below(len(twice))])
			}
		}
	}
	if right < 100 || wrong < 5000 {
		t.Errorf("memos: %d, no memos: %d", right, wrong)
	}
}

// TestUnpackNoMemo: what the chapter names, one by one.
func TestUnpackNoMemo(t *testing.T) {
	kind := field(1, "\x05")
	for name, s := range map[string]string{
		"no field":                 "",
		"no Kind":                  field(2, big(2, 6)),
		"no Kind, but Data":        field(13, "d"),
		"Kind 0":                   field(1, "\x00"),
		"Kind 13":                  field(1, "\x0d"),
		"Kind 255":                 field(1, "\xff"),
		"Kind of no byte":          field(1, ""),
		"Kind of two bytes":        field(1, "\x00\x05"),
		"Kind of two, the low 0":   field(1, "\x05\x00"),
		"Kind twice":               kind + kind,
		"Kind behind View":         field(2, big(2, 6)) + kind,
		"tag 0":                    field(0, "") + kind,
		"tag 14":                   kind + field(14, ""),
		"tag 14 with a value":      kind + field(14, "x"),
		"tag 255":                  kind + field(255, "x"),
		"View twice":               kind + field(2, big(2, 6)) + field(2, big(2, 6)),
		"View, and then another":   kind + field(2, big(2, 6)) + field(2, big(3, 6)),
		"View 0":                   kind + field(2, big(0, 6)),
		"View of 5 bytes":          kind + field(2, big(2, 5)),
		"View of 7 bytes":          kind + field(2, big(2, 7)),
		"View of 8 bytes":          kind + field(2, big(2, 8)),
		"View of none":             kind + field(2, ""),
		"View above MaxBig":        kind + field(2, big(api.MaxBig+1, 6)),
		"View of all bits":         kind + field(2, "\xff\xff\xff\xff\xff\xff"),
		"View of 8 bytes, all 1":   kind + field(2, "\xff\xff\xff\xff\xff\xff\xff\xff"),
		"View of 9 bytes":          kind + field(2, big(0, 3)+big(2, 6)),
		"Client 0":                 kind + field(8, big(0, 6)),
		"Normal behind Op":         kind + field(4, big(2, 6)) + field(3, big(2, 6)),
		"two Lives":                kind + field(9, big(1, 6)) + field(9, big(2, 6)),
		"eight Lives":              kind + strings.Repeat(field(9, big(1, 6)), 8),
		"nine Lives":               kind + strings.Repeat(field(9, big(1, 6)), 9),
		"a life above MaxBig":      kind + field(9, big(api.MaxBig+1, 6)),
		"a life of 5 bytes":        kind + field(9, big(1, 5)),
		"a life of 7 bytes":        kind + field(9, big(1, 7)),
		"a life of none":           kind + field(9, ""),
		"three Lives in one field": kind + field(9, big(1, 6)+big(1, 6)+big(1, 6)),
		"an item of 17 bytes":      kind + field(10, strings.Repeat("\x00", 16)+"\x01"),
		"an item of none":          kind + field(10, ""),
		"an item of Req 0":         kind + field(10, itemBytes(api.Item{View: 1, Client: 1, Body: "b"})),
		"an item's Req too great":  kind + field(10, itemBytes(api.Item{Req: api.MaxBig + 1})),
		"an item's View too great": kind + field(10, itemBytes(api.Item{View: api.MaxBig + 1, Req: 1})),
		"an item's Client as well": kind + field(10, itemBytes(api.Item{Client: api.MaxBig + 1, Req: 1})),
		"an item's Body too long":  kind + field(10, itemBytes(api.Item{Req: 1, Body: strings.Repeat("b", 4097)})),
		"257 items":                kind + strings.Repeat(field(10, itemBytes(api.Item{Req: 1})), 257),
		"an item ahead of a life":  kind + field(10, itemBytes(api.Item{Req: 1})) + field(9, big(1, 6)),
		"Man of zeros":             kind + field(11, manBytes(shard.Manifest{})),
		"Man of Size 0":            kind + field(11, manBytes(shard.Manifest{Op: 1, Sum: 1})),
		"Man's Op too great":       kind + field(11, manBytes(shard.Manifest{Op: api.MaxBig + 1, Size: 1})),
		"Man of 11 bytes":          kind + field(11, manBytes(shard.Manifest{Op: 1, Size: 1, Sum: 1})[1:]),
		"Man of 11 bytes, behind":  kind + field(11, manBytes(shard.Manifest{Op: 1, Size: 1, Sum: 1})[:11]),
		"Man of 13 bytes":          kind + field(11, manBytes(shard.Manifest{Op: 1, Size: 1, Sum: 1})+"\x00"),
		"Man of none":              kind + field(11, ""),
		"Man twice":                kind + strings.Repeat(field(11, manBytes(shard.Manifest{Op: 1, Size: 1})), 2),
		"Number 0":                 kind + field(12, big(0, 2)),
		"Number of 1 byte":         kind + field(12, big(1, 1)),
		"Number of 3 bytes":        kind + field(12, big(1, 3)),
		"Number of none":           kind + field(12, ""),
		"Number twice":             kind + strings.Repeat(field(12, big(1, 2)), 2),
		"Data of none":             kind + field(13, ""),
		"Data of 8193 bytes":       kind + field(13, strings.Repeat("d", 8193)),
		"Data twice":               kind + field(13, "d") + field(13, "d"),
		"Data ahead of Number":     kind + field(13, "d") + field(12, big(1, 2)),
		"a length beyond the end":  kind + "\x0d\x00\x05data",
		"a head that is cut":       kind + "\x0d\x00",
	} {
		if _, ok := parse(guarded(s)); ok {
			t.Errorf("%s: a memo", name)
		}
		refused(t, guarded(s))
		refused(t, s)
	}
	for name, s := range map[string]string{
		"Kind alone":  kind,
		"a life 0":    kind + field(9, big(0, 6)),
		"Data of a 0": kind + field(13, "\x00"),
		"256 items":   kind + strings.Repeat(field(10, itemBytes(api.Item{Req: 1})), 256),
		"a Man":       kind + field(11, manBytes(shard.Manifest{Size: 1})),
	} {
		if !held(t, guarded(s)) {
			t.Errorf("%s: no memo", name)
		}
	}
}

// TestUnpackSum: the fields of a memo with a sum that is not theirs.
func TestUnpackSum(t *testing.T) {
	for _, m := range []Memo{{Kind: Told}, full(), great()} {
		s := packed(m)
		n := len(s) - 4
		refused(t, s[:n])
		refused(t, s[:n]+"\x00\x00\x00\x00")
		refused(t, s[:n]+s[n+3:]+s[n+2:n+3]+s[n+1:n+2]+s[n:n+1]) // the highest first
		refused(t, s[n:]+s[:n])
		other := packed(changed(m, func(m *Memo) { m.Kind = 13 - m.Kind }))
		refused(t, s[:n]+other[n:])
	}
}

// TestMemory: what is told is new memory, and what is handed in is not kept.
func TestMemory(t *testing.T) {
	given := roomy(full())
	s, _ := Pack(given)
	clear(given.Lives[:cap(given.Lives)])
	clear(given.Items[:cap(given.Items)])
	if s != packed(full()) {
		t.Errorf("what was packed is now %q", s)
	}
	a, _ := Unpack(s)
	b, _ := Unpack(s)
	clear(a.Lives[:cap(a.Lives)])
	clear(a.Items[:cap(a.Items)])
	if !same(b, full()) {
		t.Errorf("two that were unpacked share memory: %v", b)
	}
	_, _ = append(b.Lives, 7), append(b.Items, api.Item{Req: 7})
	if c, e := Unpack(s); !same(c, full()) || e != api.OK {
		t.Errorf("Unpack again: %v, %v", c, e)
	}
}

// 22.2

// TestThereAndBack: what was packed is unpacked; and of two memos the bytes are the same if they are.
func TestThereAndBack(t *testing.T) {
	x := chance(4)
	l := []Memo{full(), great(), {Kind: 1}, {Kind: 12}, {Kind: 1, Lives: []int{0}}, {Kind: 1, Lives: []int{0, 0, 0}}, {Kind: 1, Lives: []int{}}, {Kind: 1, Data: "\x00"}}
	for _, f := range bigFields()[:7] {
		m := Memo{Kind: 1}
		*f(&m) = 1
		l = append(l, m)
	}
	for range 100 {
		l = append(l, x.memo())
	}
	var texts []string
	for _, m := range l {
		s, e := Pack(m)
		y, f := Unpack(s)
		if e != api.OK || f != api.OK || !same(y, m) {
			t.Errorf("%v: %v, %v; %v", m, e, f, y)
		}
		if again, e := Pack(y); again != s || e != api.OK {
			t.Errorf("%v: %q, and then %q, %v", m, s, again, e)
		}
		texts = append(texts, s)
	}
	for i, a := range l {
		for j, b := range l {
			if (texts[i] == texts[j]) != same(a, b) {
				t.Errorf("%v and %v: the bytes are the same: %v", a, b, texts[i] == texts[j])
			}
		}
	}
}

// TestOneForm: bytes that are a memo's are those that it is packed to, whatever bytes they are.
func TestOneForm(t *testing.T) {
	x := chance(5)
	right := 0
	for range 20000 {
		l := parts(x.memo())
		for range 1 + x.below(2) {
			i := x.below(len(l))
			switch x.below(5) {
			case 0:
				l = slices.Insert(l, i, field(x.below(15), x.text([]int{0, 1, 2, 6, 12, 18}[x.below(6)])))
			case 1:
				l[i] = field(x.below(15), l[i][3:])
			case 2:
				b := []byte(l[i])
				b[x.below(len(b))] ^= 1 << x.below(8)
				l[i] = string(b)
			case 3:
				l[i], l[0] = l[0], l[i]
			case 4:
				l = slices.Delete(l, i, i+1)
			}
			if len(l) == 0 {
				break
			}
		}
		s := guarded(plain(l))
		if held(t, s) {
			right++
		} else if m, e := Unpack(s); e == api.OK {
			t.Errorf("%q: %v", s, m)
		}
	}
	if right < 1000 || right > 19000 {
		t.Errorf("%d of 20000 are memos", right)
	}
}

// TestBursts: each burst of up to 32 bits in a row that is all turned, or at its ends alone, of a short memo (P6).
func TestBursts(t *testing.T) {
	for _, m := range []Memo{{Kind: Told}, {Kind: Change, View: 2}, full()} {
		s, _ := Pack(m)
		for size := 1; size <= 32; size++ {
			for at := range 8*len(s) - size + 1 {
				refused(t, turn(s, at, 1<<size-1))
				refused(t, turn(s, at, 1|1<<(size-1)))
			}
		}
	}
}

// TestBurstsByChance: bursts of all kinds, of memos of all kinds (P6).
func TestBurstsByChance(t *testing.T) {
	x := chance(6)
	for range 3000 {
		s, _ := Pack(x.memo())
		for range 10 {
			refused(t, x.burst(s, 1+x.below(32)))
		}
	}
	for _, m := range []Memo{great(), ofSize(60000)} {
		s, _ := Pack(m)
		for size := 1; size <= 32; size++ {
			refused(t, x.burst(s, size))
		}
	}
}

// FuzzUnpack: bytes of whatever kind, as they are and with their sum behind them.
func FuzzUnpack(f *testing.F) {
	x := chance(7)
	for range 30 {
		s := packed(x.memo())
		f.Add(s)
		f.Add(s[:len(s)-4])
	}
	f.Fuzz(func(t *testing.T, s string) {
		for _, b := range []string{s, guarded(s)} {
			if len(b) > MaxBytes {
				fails(t, b, api.ErrLong)
			} else {
				held(t, b)
			}
		}
	})
}
