package console

import (
	"math"
	"slices"
	"strings"
	"testing"

	"sexton/api"
	"sexton/ask"
)

// 28.1, 28.4: scripts as bytes.

const big = api.MaxBig

// chance is numbers that look like chance, and are the same each time.
type chance uint64

func (x *chance) below(n int) int {
	*x = *x*6364136223846793005 + 1442695040888963407
	return int(uint32(*x>>32) % uint32(n))
}

func makes(name string) api.Call {
	return api.Call{Kind: api.CallMake, H: api.Handle{No: 0, Gen: 1}, Name: name}
}

func bytesOf(c api.Call) string {
	s, e := ask.Pack(c)
	if e != api.OK {
		panic(e)
	}
	return s
}

// greatest is a right call that has as many bytes as one may have.
func greatest() api.Call {
	h := api.Handle{No: 255, Gen: big}
	return api.Call{Kind: 14, H: h, H2: h, Name: strings.Repeat("n", 255), Name2: strings.Repeat("m", 255), At: 1<<32 - 1, N: 65535, Data: strings.Repeat("d", 1024)}
}

// record is the bytes behind the length, and the length ahead of them.
func record(s string) string { return string([]byte{byte(len(s) >> 8), byte(len(s))}) + s }

// field is a tag, a length, a value.
func field(tag byte, value string) string {
	return string([]byte{tag, byte(len(value) >> 8), byte(len(value))}) + value
}

// six is a number in six bytes.
func six(n int) string {
	return string([]byte{byte(n >> 40), byte(n >> 32), byte(n >> 24), byte(n >> 16), byte(n >> 8), byte(n)})
}

// written is a second writing of a choice's record.
func written(x api.Choice) string {
	s := field(1, string([]byte{byte(x.Kind)}))
	if x.Node != 0 {
		s += field(2, string([]byte{byte(x.Node)}))
	}
	if x.N != 0 {
		s += field(3, six(x.N))
	}
	if x.Client != 0 {
		s += field(4, string([]byte{byte(x.Client)}))
	}
	if x.Call != (api.Call{}) {
		s += field(5, bytesOf(x.Call))
	}
	return record(s)
}

// packs fails, if a script is not packed so, or not unpacked so.
func packs(t *testing.T, n int, l []api.Choice, want string) {
	t.Helper()
	old := slices.Clone(l)
	if s, e := Pack(n, l); s != want || e != api.OK {
		t.Fatalf("Pack(%d, %v): %q, %v, want %q", n, l, s, e, want)
	}
	if !slices.Equal(old, l) {
		t.Fatal("Pack changed the list")
	}
	m, back, e := Unpack(want)
	if m != n || !slices.Equal(back, l) || e != api.OK {
		t.Fatalf("Unpack(%q): %d, %v, %v, want %d, %v", want, m, back, e, n, l)
	}
}

// packsNot fails, if a script is packed, or another error is told.
func packsNot(t *testing.T, n int, l []api.Choice, want api.Errno) {
	t.Helper()
	if s, e := Pack(n, l); s != "" || e != want {
		t.Fatalf("Pack(%d, %d choices): %q, %v, want %v", n, len(l), s, e, want)
	}
}

// unpacksNot fails, if bytes are a script, or another error is told; Run tells the same.
func unpacksNot(t *testing.T, b string, want api.Errno) {
	t.Helper()
	if n, l, e := Unpack(b); n != 0 || len(l) != 0 || e != want {
		t.Fatalf("Unpack(%q): %d, %v, %v, want %v", b, n, l, e, want)
	}
	if s, e := Run(b); s != "" || e != want {
		t.Fatalf("Run(%q): %q, %v, want %v", b, s, e, want)
	}
}

// isRecord fails, if a choice has no record, or another one.
func isRecord(t *testing.T, x api.Choice) {
	t.Helper()
	packs(t, 3, []api.Choice{x}, "\x03"+written(x))
	packs(t, 3, []api.Choice{{Kind: 6}, x, {Kind: 9, Node: 2}}, "\x03"+written(api.Choice{Kind: 6})+written(x)+written(api.Choice{Kind: 9, Node: 2}))
}

// isNone fails, if a choice has a record.
func isNone(t *testing.T, x api.Choice) {
	t.Helper()
	packsNot(t, 3, []api.Choice{x}, api.ErrForm)
	packsNot(t, 3, []api.Choice{{Kind: 6}, x, {Kind: 9, Node: 2}}, api.ErrForm)
}

// The chapter's example.
func TestExample(t *testing.T) {
	packs(t, 3, []api.Choice{{Kind: api.DoTick, Node: 1}}, "\x03\x00\x08\x01\x00\x01\x06\x02\x00\x01\x01")
}

func TestNodes(t *testing.T) {
	for _, n := range []int{math.MinInt, -256, -1, 256, 257, 1 << 32, math.MaxInt} {
		packsNot(t, n, nil, api.ErrArg)
		packsNot(t, n, []api.Choice{{Kind: 6}}, api.ErrArg)
		// Of several things that are wrong the first is told.
		packsNot(t, n, make([]api.Choice, 1001), api.ErrArg)
		packsNot(t, n, []api.Choice{{}}, api.ErrArg)
	}
	for _, n := range []int{0, 1, 2, 3, 7, 127, 128, 254, 255} {
		packs(t, n, nil, string([]byte{byte(n)}))
		packs(t, n, []api.Choice{}, string([]byte{byte(n)}))
		packs(t, n, []api.Choice{{Kind: 6}}, string([]byte{byte(n)})+"\x00\x04\x01\x00\x01\x06")
	}
}

func TestHowManyChoices(t *testing.T) {
	if MaxChoices != 1000 {
		t.Errorf("MaxChoices: %d", MaxChoices)
	}
	var l []api.Choice
	want := "\x07"
	for i := range 1001 {
		x := api.Choice{Kind: 1 + i%9, Node: i % 256, N: i * i, Client: i % 7}
		if len(l) < 1000 {
			l = append(l, x)
			want += written(x)
			continue
		}
		packs(t, 7, l, want)
		packsNot(t, 7, append(slices.Clone(l), x), api.ErrLong)
		// There are too many, whether they have records or not; read, each has its turn.
		packsNot(t, 7, append(slices.Clone(l), api.Choice{}), api.ErrLong)
		packsNot(t, 7, make([]api.Choice, 1001), api.ErrLong)
		unpacksNot(t, want+written(x), api.ErrLong)
		unpacksNot(t, want+written(x)+"\x00", api.ErrLong)
		unpacksNot(t, want+written(x)+record("x"), api.ErrLong)
		unpacksNot(t, want+"\x00", api.ErrForm)
		unpacksNot(t, want+"\x00\x04\x01\x00\x01", api.ErrForm)
		unpacksNot(t, want+record(""), api.ErrForm)
		unpacksNot(t, want+record("\x01\x00\x01\x0a"), api.ErrForm)
		unpacksNot(t, want+strings.Repeat(written(x), 100), api.ErrLong)
		unpacksNot(t, "\x07"+record("")+strings.Repeat(written(x), 1100), api.ErrForm)
	}
	packs(t, 7, l[:999], want[:len(want)-len(written(l[999]))])
}

func TestKinds(t *testing.T) {
	for _, kind := range []int{math.MinInt, -1, 0, 10, 11, 255, 256, 257, 1<<32 + 1, math.MaxInt} {
		isNone(t, api.Choice{Kind: kind})
		isNone(t, api.Choice{Kind: kind, Node: 1, N: 2, Client: 3, Call: makes("a")})
	}
	for kind := 1; kind <= 9; kind++ {
		isRecord(t, api.Choice{Kind: kind})
		isRecord(t, api.Choice{Kind: kind, Node: 1, N: 2, Client: 3, Call: makes("a")})
	}
	for kind := range 256 {
		if kind < 1 || kind > 9 {
			unpacksNot(t, "\x03"+record(field(1, string([]byte{byte(kind)}))), api.ErrForm)
		}
	}
}

func TestNumbers(t *testing.T) {
	for _, i := range []int{math.MinInt, -256, -1, 256, 257, 1 << 32, math.MaxInt} {
		isNone(t, api.Choice{Kind: 6, Node: i})
		isNone(t, api.Choice{Kind: 1, Client: i})
	}
	for _, i := range []int{0, 1, 2, 127, 128, 255} {
		isRecord(t, api.Choice{Kind: 6, Node: i})
		isRecord(t, api.Choice{Kind: 1, Client: i})
		isRecord(t, api.Choice{Kind: 1, Node: 255 - i, Client: i})
	}
	for _, i := range []int{math.MinInt, -big, -1, big + 1, 1 << 48, 1<<48 + 1, math.MaxInt} {
		isNone(t, api.Choice{Kind: 8, N: i})
	}
	for _, i := range []int{0, 1, 255, 256, 65535, 65536, 1 << 31, 1 << 32, big - 1, big} {
		isRecord(t, api.Choice{Kind: 8, N: i})
	}
}

func TestCalls(t *testing.T) {
	isRecord(t, api.Choice{Kind: 1})
	isRecord(t, api.Choice{Kind: 1, Call: makes("a")})
	isRecord(t, api.Choice{Kind: 9, Call: makes("a")})
	isRecord(t, api.Choice{Kind: 1, Node: 255, N: big, Client: 255, Call: greatest()})
	for kind := 1; kind <= 14; kind++ {
		isRecord(t, api.Choice{Kind: 1, Call: api.Call{Kind: kind}})
	}
	for _, c := range []api.Call{
		{Kind: 15},
		{Kind: -1},
		{Name: "a"}, // not the zero one, and of no kind
		{H: api.Handle{No: 0, Gen: 1}},
		{Data: "x"},
		{N: 1},
		{Kind: 1, H: api.Handle{No: 256}},
		{Kind: 1, H2: api.Handle{Gen: big + 1}},
		{Kind: 1, Name: strings.Repeat("a", 256)},
		{Kind: 1, Name2: strings.Repeat("a", 256)},
		{Kind: 1, At: -1},
		{Kind: 1, At: 1 << 32},
		{Kind: 1, N: 65536},
		{Kind: 1, Data: strings.Repeat("a", 1025)},
	} {
		isNone(t, api.Choice{Kind: 1, Call: c})
		isNone(t, api.Choice{Kind: 6, Call: c})
	}
}

func TestUnpackOfNoBytes(t *testing.T) {
	unpacksNot(t, "", api.ErrCut)
}

// Each beginning of a script: whole where a record ends, and nowhere else.
func TestBeginnings(t *testing.T) {
	l := []api.Choice{{Kind: 6, Node: 1}, {Kind: 1, Client: 2, Call: makes("a")}, {Kind: 8, Node: 2, N: big}, {Kind: 3}, {Kind: 1, Node: 255, N: big, Client: 255, Call: greatest()}}
	b, e := Pack(3, l)
	if e != api.OK {
		t.Fatal(e)
	}
	ends := map[int]int{1: 0}
	at := 1
	for i, x := range l {
		at += len(written(x))
		ends[at] = i + 1
	}
	for i := 1; i <= len(b); i++ {
		if count, whole := ends[i]; whole {
			packs(t, 3, l[:count], b[:i])
		} else {
			unpacksNot(t, b[:i], api.ErrForm)
		}
	}
}

// Records of another form.
func TestForms(t *testing.T) {
	kind, node, n, client, call := field(1, "\x01"), field(2, "\x01"), field(3, six(2)), field(4, "\x03"), field(5, bytesOf(makes("a")))
	whole := api.Choice{Kind: 1, Node: 1, N: 2, Client: 3, Call: makes("a")}
	packs(t, 3, []api.Choice{whole}, "\x03"+record(kind+node+n+client+call))
	for _, s := range []string{
		"",
		// In another order.
		node + kind, kind + n + node, kind + client + n, kind + call + client, call + kind,
		// Twice.
		kind + kind, kind + node + node, kind + n + n, kind + client + client, kind + call + call, field(1, "\x02") + kind,
		// Without a Kind.
		node, n, client, call, node + n + client + call,
		// Of the zero value.
		field(1, "\x00"), kind + field(2, "\x00"), kind + field(3, six(0)), kind + field(4, "\x00"), kind + field(5, ""),
		// Of another width.
		field(1, ""), field(1, "\x00\x01"), field(1, "\x01\x00"), kind + field(2, ""), kind + field(2, "\x00\x01"), kind + field(3, ""), kind + field(3, "\x02"),
		kind + field(3, six(2)[1:]), kind + field(3, "\x00"+six(2)), kind + field(3, "\x00\x00"+six(2)), kind + field(3, "\x00\x00\x00"+six(2)), kind + field(3, "\x80\x00"+six(2)),
		kind + field(4, ""), kind + field(4, "\x00\x03"),
		// Out of its range.
		kind + field(3, six(big+1)), kind + field(3, "\xff\xff\xff\xff\xff\xff"), field(1, "\x0a"), field(1, "\xff"),
		// Of another tag.
		field(0, "\x01") + kind, kind + field(6, "\x01"), kind + field(255, ""), kind + node + n + client + call + field(6, ""),
		// A call that is none.
		kind + field(5, "x"), kind + field(5, field(1, "\x00")), kind + field(5, field(1, "\x0f")), kind + field(5, bytesOf(makes("a"))+"x"), kind + field(5, field(4, "a")),
		kind + field(5, field(4, "a")+field(1, "\x03")),
		// Cut, and with more behind it.
		kind[:1], kind[:2], kind[:3], kind + "\x00", kind + "\x02", kind + "\x02\x00\x01", kind + node + "x", kind + node[:3], "x", "\x00\x00\x00", strings.Repeat("\x00", 300),
	} {
		for _, b := range []string{"\x03" + record(s), "\x03" + record(kind) + record(s), "\x03" + record(s) + record(kind), "\x00" + record(s)} {
			unpacksNot(t, b, api.ErrForm)
		}
	}
	// Of another length.
	b := "\x03" + record(kind+node)
	for _, length := range []string{"\x00\x00", "\x00\x04", "\x00\x07", "\x00\x09", "\x01\x08", "\x08\x00", "\xff\xff"} {
		unpacksNot(t, b[:1]+length+b[3:], api.ErrForm)
	}
	// With more behind it.
	for _, more := range []string{"\x00", "\x00\x00", "\x00\x01", "\x00\x04\x01\x00\x01", "x", strings.Repeat("x", 70000)} {
		unpacksNot(t, b+more, api.ErrForm)
	}
	// Two as one.
	unpacksNot(t, "\x03"+record(kind+node+kind+node), api.ErrForm)
}

// someChoice is a choice that has a record, most of the time.
func someChoice(p *chance) api.Choice {
	x := api.Choice{Kind: 1 + p.below(9), Node: p.below(3) * p.below(128), N: []int{0, 1, p.below(3000), big, p.below(1 << 30)}[p.below(5)], Client: p.below(2) * p.below(256)}
	if p.below(2) == 0 {
		x.Call = api.Call{Kind: 1 + p.below(14), H: api.Handle{No: p.below(256), Gen: p.below(9)}, Name: strings.Repeat("a", p.below(20)), N: p.below(2) * p.below(65536), Data: strings.Repeat("\x00", p.below(2)*p.below(1025))}
	}
	switch p.below(40) {
	case 0:
		x.Kind = p.below(20) - 5
	case 1:
		x.Node = p.below(600) - 200
	case 2:
		x.N = []int{-1, big + 1, 1 << 47}[p.below(3)]
	case 3:
		x.Client = p.below(600) - 200
	case 4:
		x.Call.Kind = p.below(40) - 20
	}
	return x
}

// hasRecord is a second writing of which choices have one.
func hasRecord(x api.Choice) bool {
	return x.Kind >= 1 && x.Kind <= 9 && x.Node >= 0 && x.Node <= 255 && x.Client >= 0 && x.Client <= 255 && x.N >= 0 && x.N <= 1<<40 && (x.Call == api.Call{} || ask.Check(x.Call) == api.OK)
}

// 28.1, 28.4: what was packed is unpacked; what is unpacked is packed so.
func TestThereAndBack(t *testing.T) {
	p := chance(28)
	good, bad, turned := 0, 0, 0
	for range 3000 {
		n := p.below(256)
		var l []api.Choice
		want, right := string([]byte{byte(n)}), true
		for range p.below(12) {
			x := someChoice(&p)
			l = append(l, x)
			right = right && hasRecord(x)
			if right {
				want += written(x)
			}
		}
		if !right {
			packsNot(t, n, l, api.ErrForm)
			bad++
			continue
		}
		packs(t, n, l, want)
		good++
		// Bytes that were changed are no script's, or one's that is packed so.
		b := []byte(want)
		b[p.below(len(b))] ^= byte(1 << p.below(8))
		m, back, e := Unpack(string(b))
		if e == api.OK {
			packs(t, m, back, string(b))
			turned++
		} else {
			unpacksNot(t, string(b), api.ErrForm)
		}
	}
	if good < 500 || bad < 100 || turned < 100 {
		t.Errorf("%d good, %d bad, %d turned", good, bad, turned)
	}
}

// Whatever bytes there are: they are told to be no script, or packed are the same again.
func TestAnyBytes(t *testing.T) {
	p := chance(1)
	whole := 0
	for range 50000 {
		b := make([]byte, p.below(24))
		for i := range b {
			b[i] = byte([]int{0, 0, 0, 1, 1, 2, 4, 6, 8, p.below(256)}[p.below(10)])
		}
		n, l, e := Unpack(string(b))
		switch {
		case len(b) == 0:
			unpacksNot(t, string(b), api.ErrCut)
		case e == api.OK:
			packs(t, n, l, string(b))
			whole++
		default:
			unpacksNot(t, string(b), api.ErrForm)
		}
	}
	if whole < 100 {
		t.Errorf("only %d were whole", whole)
	}
}
