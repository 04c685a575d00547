package ask

import (
	"math"
	"slices"
	"strings"
	"testing"

	"sexton/api"
)

func at(no, gen int) api.Handle { return api.Handle{No: no, Gen: gen} }

// text are n bytes, of which the first and the last are not the same.
func text(n int) string { return strings.Repeat("abcdefghi", n/9+1)[:n] }

// change is one thing that is done to a call.
type change func(c *api.Call)

func kind(k int) change      { return func(c *api.Call) { c.Kind = k } }
func h(x api.Handle) change  { return func(c *api.Call) { c.H = x } }
func h2(x api.Handle) change { return func(c *api.Call) { c.H2 = x } }
func name(s string) change   { return func(c *api.Call) { c.Name = s } }
func name2(s string) change  { return func(c *api.Call) { c.Name2 = s } }
func from(n int) change      { return func(c *api.Call) { c.At = n } }
func count(n int) change     { return func(c *api.Call) { c.N = n } }
func data(s string) change   { return func(c *api.Call) { c.Data = s } }

// of is a call to which the change was done.
func (x change) of(c api.Call) api.Call {
	x(&c)
	return c
}

// bare is a call in which all but Kind is at its zero value.
func bare() api.Call { return api.Call{Kind: api.CallLook} }

// full is a call in which no field is at its zero value.
func full() api.Call {
	return api.Call{Kind: api.CallRename, H: at(3, 4), H2: at(5, 6), Name: "x", Name2: "yz", At: 7, N: 8, Data: "data"}
}

// most is a call in which all is as great and as long as it may be.
func most() api.Call {
	return api.Call{
		Kind: api.CallClose, H: at(255, api.MaxBig), H2: at(255, api.MaxBig),
		Name: text(255), Name2: text(255), At: 1<<32 - 1, N: 65535, Data: text(1024),
	}
}

// rightChanges leave a right call right.
func rightChanges() []change {
	var l []change
	for k := api.CallLook; k <= api.CallClose; k++ {
		l = append(l, kind(k))
	}
	for _, x := range []api.Handle{{}, at(0, 1), at(1, 0), at(1, 1), at(254, 2), at(255, 0), at(255, 256), at(0, api.MaxBig-1), at(0, api.MaxBig), at(255, api.MaxBig)} {
		l = append(l, h(x), h2(x))
	}
	for _, s := range []string{"", "a", "\x00", "\x00\x00", "/", "..", "\xff\xfe", "ä", text(32), text(33), text(254), text(255), strings.Repeat("\x00", 255)} {
		l = append(l, name(s), name2(s), data(s))
	}
	for _, n := range []int{0, 1, 255, 256, 65535, 65536, 1<<24 + 1, 1<<31 - 1, 1 << 31, 1<<32 - 2, 1<<32 - 1} {
		l = append(l, from(n))
	}
	for _, n := range []int{0, 1, 255, 256, 32768, 65534, 65535} {
		l = append(l, count(n))
	}
	for _, n := range []int{256, 512, 513, 1023, 1024} {
		l = append(l, data(text(n)))
	}
	return l
}

// wrongChanges have a call be wrong, each for one reason.
func wrongChanges() []change {
	var l []change
	for _, k := range []int{math.MinInt, -1, api.CallLook - 1, api.CallClose + 1, 255, 256, 257, 1<<32 + 1, math.MaxInt} {
		l = append(l, kind(k))
	}
	for _, no := range []int{math.MinInt, -256, -1, 256, 257, 1 << 32, math.MaxInt} {
		l = append(l, h(at(no, 0)), h(at(no, 1)), h2(at(no, 0)), h2(at(no, 1)))
	}
	for _, gen := range []int{math.MinInt, -1, api.MaxBig + 1, 1<<48 - 1, 1 << 48, math.MaxInt} {
		l = append(l, h(at(0, gen)), h(at(255, gen)), h2(at(0, gen)), h2(at(255, gen)))
	}
	for _, n := range []int{256, 257, 1024, 65535, 65536, 100000} {
		l = append(l, name(text(n)), name2(text(n)))
	}
	for _, n := range []int{math.MinInt, -1 << 32, -1, 1 << 32, 1<<32 + 1, math.MaxInt} {
		l = append(l, from(n))
	}
	for _, n := range []int{math.MinInt, -65536, -1, 65536, 65537, 1 << 32, math.MaxInt} {
		l = append(l, count(n))
	}
	for _, n := range []int{1025, 1026, 65535, 65536, 100000} {
		l = append(l, data(text(n)))
	}
	return l
}

// grounds are calls that changes are done to.
func grounds() []api.Call { return []api.Call{bare(), full(), most()} }

func rightCalls() []api.Call {
	l := grounds()
	for _, c := range grounds() {
		for _, x := range rightChanges() {
			l = append(l, x.of(c))
		}
	}
	return l
}

func wrongCalls() []api.Call {
	l := []api.Call{{}, {H: at(0, 1), Name: "a"}}
	for _, c := range grounds() {
		for _, x := range wrongChanges() {
			l = append(l, x.of(c))
		}
	}
	return l
}

// field are a field's bytes, by shifts alone.
func field(tag byte, value string) string {
	return string([]byte{tag, byte(len(value) >> 8), byte(len(value))}) + value
}

// be are the size low bytes of n, the highest first.
func be(n, size int) string {
	var b []byte
	for i := size - 1; i >= 0; i-- {
		b = append(b, byte(n>>(8*i)))
	}
	return string(b)
}

// written are a call's bytes, in a second writing of the chapter's table.
func written(c api.Call) string {
	s := field(1, be(c.Kind, 1))
	if c.H.No != 0 || c.H.Gen != 0 {
		s += field(2, be(c.H.No, 1)+be(c.H.Gen, 6))
	}
	if c.H2.No != 0 || c.H2.Gen != 0 {
		s += field(3, be(c.H2.No, 1)+be(c.H2.Gen, 6))
	}
	if len(c.Name) > 0 {
		s += field(4, c.Name)
	}
	if len(c.Name2) > 0 {
		s += field(5, c.Name2)
	}
	if c.At > 0 {
		s += field(6, be(c.At, 4))
	}
	if c.N > 0 {
		s += field(7, be(c.N, 2))
	}
	if len(c.Data) > 0 {
		s += field(8, c.Data)
	}
	return s
}

// parser reads bytes strictly, from the front on.
type parser struct {
	s   string
	bad bool
}

// take is the value of the field of that tag at the front, if there is one; from least to most bytes.
func (p *parser) take(tag byte, least, most int) (string, bool) {
	if p.bad || p.s == "" || p.s[0] != tag {
		return "", false
	}
	if len(p.s) < 3 {
		p.bad = true
		return "", false
	}
	n := int(p.s[1])*256 + int(p.s[2])
	if n < least || n > most || len(p.s) < 3+n {
		p.bad = true
		return "", false
	}
	v := p.s[3 : 3+n]
	p.s = p.s[3+n:]
	return v, true
}

// count is the number of that tag, from 1 to most.
func (p *parser) count(tag byte, size, most int) int {
	v, ok := p.take(tag, size, size)
	n := 0
	for i := range len(v) {
		n = n*256 + int(v[i])
	}
	if ok && (n < 1 || n > most) {
		p.bad = true
	}
	return n
}

// handle is the handle of that tag, which is not the zero one.
func (p *parser) handle(tag byte) api.Handle {
	v, ok := p.take(tag, 7, 7)
	if !ok {
		return api.Handle{}
	}
	gen := 0
	for i := 1; i < 7; i++ {
		gen = gen*256 + int(v[i])
	}
	x := api.Handle{No: int(v[0]), Gen: gen}
	if gen > api.MaxBig || x == (api.Handle{}) {
		p.bad = true
	}
	return x
}

// text is the text of that tag, from 1 byte on.
func (p *parser) text(tag byte, most int) string {
	v, _ := p.take(tag, 1, most)
	return v
}

// parsed is the call that bytes are, in a second writing: it reads them strictly, where Unpack packs again what it read.
func parsed(s string) (api.Call, api.Errno) {
	p := &parser{s: s}
	c := api.Call{
		Kind: p.count(1, 1, 14), H: p.handle(2), H2: p.handle(3), Name: p.text(4, 255), Name2: p.text(5, 255),
		At: p.count(6, 4, 1<<32-1), N: p.count(7, 2, 65535), Data: p.text(8, 1024),
	}
	if p.bad || p.s != "" || c.Kind == 0 {
		return api.Call{}, api.BadCall
	}
	return c, api.OK
}

func wantPack(t *testing.T, c api.Call, want string, wantE api.Errno) {
	t.Helper()
	if s, e := Pack(c); s != want || e != wantE {
		t.Errorf("Pack(%.200v): %.200q, %v; want %.200q, %v", c, s, e, want, wantE)
	}
}

func wantUnpack(t *testing.T, s string, want api.Call, wantE api.Errno) {
	t.Helper()
	if c, e := Unpack(s); c != want || e != wantE {
		t.Errorf("Unpack(%.200q): %.200v, %v; want %.200v, %v", s, c, e, want, wantE)
	}
}

func wantNone(t *testing.T, s string) {
	t.Helper()
	wantUnpack(t, s, api.Call{}, api.BadCall)
}

// 13.1

func TestCheck(t *testing.T) {
	for _, c := range rightCalls() {
		if e := Check(c); e != api.OK {
			t.Errorf("Check(%.200v): %v", c, e)
		}
	}
	for _, c := range wrongCalls() {
		if e := Check(c); e != api.BadCall {
			t.Errorf("Check(%.200v): %v", c, e)
		}
	}
}

// What a kind has no need of may be there all the same.
func TestKindsTakeAllFields(t *testing.T) {
	for k := api.CallLook; k <= api.CallClose; k++ {
		c := kind(k).of(full())
		wantPack(t, c, written(c), api.OK)
		wantPack(t, api.Call{Kind: k}, "\x01\x00\x01"+be(k, 1), api.OK)
		wantUnpack(t, written(c), c, api.OK)
		wantUnpack(t, "\x01\x00\x01"+be(k, 1), api.Call{Kind: k}, api.OK)
	}
}

func TestExample(t *testing.T) {
	c := api.Call{Kind: api.CallLook, H: at(0, 1), Name: "a"}
	s := "\x01\x00\x01\x01\x02\x00\x07\x00\x00\x00\x00\x00\x00\x01\x04\x00\x01\x61"
	wantPack(t, c, s, api.OK)
	wantUnpack(t, s, c, api.OK)
}

// fieldForms are one change of each field but Kind, and its bytes, by their tags.
func fieldForms() []struct {
	x     change
	bytes string
} {
	return []struct {
		x     change
		bytes string
	}{
		{h(at(0xab, 0x0123456789)), "\x02\x00\x07\xab\x00\x01\x23\x45\x67\x89"},
		{h2(at(1, 0)), "\x03\x00\x07\x01\x00\x00\x00\x00\x00\x00"},
		{name("\x00"), "\x04\x00\x01\x00"},
		{name2("../\xff"), "\x05\x00\x04../\xff"},
		{from(0xfedcba98), "\x06\x00\x04\xfe\xdc\xba\x98"},
		{count(258), "\x07\x00\x02\x01\x02"},
		{data("\x00\x00\x00"), "\x08\x00\x03\x00\x00\x00"},
	}
}

// Each field alone, and in every company of others: what is at its zero value is left out, what is not is there.
func TestZeroValuesAreLeftOut(t *testing.T) {
	forms := fieldForms()
	for set := range 1 << len(forms) {
		c, s := api.Call{Kind: api.CallWrite}, "\x01\x00\x01\x06"
		for i, f := range forms {
			if set>>i&1 == 1 {
				c, s = f.x.of(c), s+f.bytes
			}
		}
		wantPack(t, c, s, api.OK)
		wantUnpack(t, s, c, api.OK)
	}
}

func TestPack(t *testing.T) {
	for _, c := range rightCalls() {
		wantPack(t, c, written(c), api.OK)
	}
	for _, c := range wrongCalls() {
		wantPack(t, c, "", api.BadCall)
	}
}

// The bytes of calls that are not right, and which fit their fields, are no call's.
func TestUnpackOutOfRange(t *testing.T) {
	begin := "\x01\x00\x01\x01"
	for _, s := range []string{
		"\x01\x00\x01\x00", "\x01\x00\x01\x0f", "\x01\x00\x01\xff",
		begin + field(2, be(0, 1)+be(api.MaxBig+1, 6)), begin + field(2, be(255, 1)+be(1<<48-1, 6)),
		begin + field(3, be(0, 1)+be(api.MaxBig+1, 6)), begin + field(3, be(255, 1)+be(1<<48-1, 6)),
		begin + field(4, text(256)), begin + field(4, text(65535)),
		begin + field(5, text(256)), begin + field(5, text(65535)),
		begin + field(8, text(1025)), begin + field(8, text(65535)),
	} {
		wantNone(t, s)
	}
	for _, x := range wrongChanges() {
		if c := x.of(bare()); len(c.Name) < 65536 && len(c.Name2) < 65536 && len(c.Data) < 65536 {
			want, e := parsed(written(c))
			wantUnpack(t, written(c), want, e)
		}
	}
}

func TestUnpackNoKind(t *testing.T) {
	wantNone(t, "")
	all := ""
	for _, f := range fieldForms() {
		wantNone(t, f.bytes)
		all += f.bytes
	}
	wantNone(t, all)
	wantNone(t, "\x01\x00\x00")
	wantNone(t, "\x01\x00\x00"+all)
}

func TestUnpackFieldTwice(t *testing.T) {
	wantNone(t, "\x01\x00\x01\x01\x01\x00\x01\x01")
	wantNone(t, "\x01\x00\x01\x01\x01\x00\x01\x02")
	for _, f := range fieldForms() {
		one := "\x01\x00\x01\x01" + f.bytes
		wantUnpack(t, one, f.x.of(bare()), api.OK)
		wantNone(t, one+f.bytes)
		other := []byte(f.bytes)
		other[len(other)-1]++
		wantNone(t, one+string(other))
	}
}

func TestUnpackTagsOutOfOrder(t *testing.T) {
	forms := []string{"\x01\x00\x01\x01"}
	for _, f := range fieldForms() {
		forms = append(forms, f.bytes)
	}
	wantUnpack(t, strings.Join(forms, ""), parsedWell(t, strings.Join(forms, "")), api.OK)
	for i := range forms {
		for j := range i {
			l := slices.Clone(forms)
			l[i], l[j] = l[j], l[i]
			wantNone(t, strings.Join(l, ""))
		}
	}
	for i := 1; i < len(forms); i++ {
		wantNone(t, forms[i]+forms[0])
	}
}

// parsedWell is what a text is that must be a call's.
func parsedWell(t *testing.T, s string) api.Call {
	t.Helper()
	c, e := parsed(s)
	if e != api.OK {
		t.Fatalf("no call: %q", s)
	}
	return c
}

func TestUnpackTagThatIsNone(t *testing.T) {
	for _, s := range []string{written(bare()), written(full())} {
		for tag := 9; tag < 256; tag++ {
			wantNone(t, s+field(byte(tag), ""))
			wantNone(t, s+field(byte(tag), "a"))
		}
		wantNone(t, s+field(0, ""))
		wantNone(t, field(0, "")+s)
	}
}

func TestUnpackValueShortOrLong(t *testing.T) {
	for _, x := range []string{"\x01", "\x00\x01", "\x00\x00\x00\x00\x00\x00\x00\x01", "\x01\x00", "", "\x80\x00\x00\x00\x00\x00\x00\x00", "\x00\x00\x00\x00\x00\x00\x00\x00\x01"} {
		if len(x) != 1 {
			wantNone(t, field(1, x))
			wantNone(t, field(1, x)+field(4, "a"))
		}
	}
	begin := "\x01\x00\x01\x01"
	for tag, size := range map[byte]int{2: 7, 3: 7, 6: 4, 7: 2} {
		for _, n := range []int{0, 1, size - 1, size + 1, 8, 9, 16} {
			if n == size {
				continue
			}
			for _, v := range []string{strings.Repeat("\x00", n), strings.Repeat("\x01", n), strings.Repeat("\xff", n), strings.Repeat("\x00", max(n-1, 0)) + "\x01", "\x01" + strings.Repeat("\x00", max(n-1, 0))} {
				wantNone(t, begin+field(tag, v))
				wantNone(t, begin+field(tag, v)+field(8, "data"))
			}
		}
		v := strings.Repeat("\x00", size-1) + "\x01"
		wantUnpack(t, begin+field(tag, v), parsedWell(t, begin+field(tag, v)), api.OK)
	}
}

func TestUnpackZeroValueThatIsThere(t *testing.T) {
	begin := "\x01\x00\x01\x01"
	for tag, size := range map[byte]int{2: 7, 3: 7, 4: 0, 5: 0, 6: 4, 7: 2, 8: 0} {
		zero := field(tag, strings.Repeat("\x00", size))
		wantNone(t, begin+zero)
		if tag < 8 {
			wantNone(t, begin+zero+field(8, "data"))
		}
	}
}

func TestUnpackCutAndWithMoreBehind(t *testing.T) {
	for _, c := range grounds() {
		s := written(c)
		for n := range len(s) {
			want, e := parsed(s[:n])
			wantUnpack(t, s[:n], want, e)
		}
		for _, more := range []string{"\x00", "\x01", "\x08", "\x08\x00", "\x08\x00\x01", "\x09\x00\x00", "\xff\xff\xff", s} {
			wantNone(t, s+more)
		}
	}
}

// near are texts that are not far from s: each byte another one, each left out, some put in at each place.
func near(s string) []string {
	var l []string
	for i := range len(s) {
		for b := range 256 {
			l = append(l, s[:i]+string([]byte{byte(b)})+s[i+1:])
		}
		l = append(l, s[:i]+s[i+1:])
		for _, b := range []byte{0, 1, 2, 4, 7, 8, 9, 255} {
			l = append(l, s[:i]+string([]byte{b})+s[i:])
		}
	}
	return l
}

func TestUnpackAgainstSecondWriting(t *testing.T) {
	right := 0
	for _, c := range []api.Call{bare(), full(), {Kind: api.CallLook, H: at(0, 1), Name: "a"}, {Kind: api.CallClose, N: 256}, {Kind: api.CallCut, H: at(255, api.MaxBig), At: 1<<32 - 1}} {
		for _, s := range near(written(c)) {
			want, e := parsed(s)
			wantUnpack(t, s, want, e)
			if e == api.OK {
				right++
			}
		}
	}
	if right < 1000 {
		t.Errorf("only %d texts are calls", right)
	}
}

// 13.2

func TestNeeds(t *testing.T) {
	want := [][]int{
		api.CallLook:   {2, 4},
		api.CallAttr:   {2},
		api.CallMake:   {2, 4},
		api.CallFolder: {2, 4},
		api.CallRead:   {2, 6, 7},
		api.CallWrite:  {2, 6, 8},
		api.CallCut:    {2, 6},
		api.CallLink:   {2, 3, 4},
		api.CallUnlink: {2, 4},
		api.CallRmdir:  {2, 4},
		api.CallRename: {2, 3, 4, 5},
		api.CallList:   {2, 6, 7},
		api.CallOpen:   {2},
		api.CallClose:  {7},
	}
	for k := api.CallLook; k <= api.CallClose; k++ {
		if l, e := Needs(k); !slices.Equal(l, want[k]) || e != api.OK {
			t.Errorf("Needs(%d): %v, %v; want %v", k, l, e, want[k])
		}
	}
	for _, k := range []int{math.MinInt, -1, api.CallLook - 1, api.CallClose + 1, 16, 255, 257, 1<<32 + 1, math.MaxInt} {
		if l, e := Needs(k); len(l) != 0 || e != api.ErrArg {
			t.Errorf("Needs(%d): %v, %v", k, l, e)
		}
	}
}

// R3: what is done to an answer is not seen in a later one.
func TestNeedsAreNewEachTime(t *testing.T) {
	for k := api.CallLook; k <= api.CallClose; k++ {
		l, _ := Needs(k)
		before := slices.Clone(l)
		for i := range l[:cap(l)] {
			l[:cap(l)][i] = -7
		}
		for other := api.CallLook; other <= api.CallClose; other++ {
			if m, _ := Needs(other); slices.Contains(m[:cap(m)], -7) {
				t.Errorf("Needs(%d) shares with Needs(%d)", other, k)
			}
		}
		if m, _ := Needs(k); !slices.Equal(m, before) {
			t.Errorf("Needs(%d) again: %v; was %v", k, m, before)
		}
	}
}

// 13.3

func TestPackedIsUnpacked(t *testing.T) {
	forms := map[string]api.Call{}
	for _, c := range rightCalls() {
		s, e := Pack(c)
		if e != api.OK {
			t.Fatalf("Pack(%.200v): %v", c, e)
		}
		wantUnpack(t, s, c, api.OK)
		if d, ok := forms[s]; ok && d != c {
			t.Errorf("one form of two calls: %.200v, %.200v", c, d)
		}
		forms[s] = c
	}
}

// All short texts of a few telling bytes behind a kind: each that is a call's is the one form of that.
func TestUnpackedIsPacked(t *testing.T) {
	telling := []byte{0, 1, 2, 4, 7, 8}
	unpacked := 0
	var walk func(s string, more int)
	walk = func(s string, more int) {
		want, wantE := parsed(s)
		wantUnpack(t, s, want, wantE)
		if wantE == api.OK {
			unpacked++
			wantPack(t, want, s, api.OK)
		}
		if more == 0 {
			return
		}
		for _, b := range telling {
			walk(s+string([]byte{b}), more-1)
		}
	}
	walk("", 5)
	walk("\x01\x00\x01\x02", 6)
	walk("\x01\x00\x01\x0e\x02\x00\x07\x00\x00\x00", 6)
	if unpacked < 100 {
		t.Errorf("only %d texts are unpacked", unpacked)
	}
}

// P1: long bytes of little sense.
func TestUnpackLongTexts(t *testing.T) {
	wantNone(t, strings.Repeat("\x00", 1<<20))
	wantNone(t, strings.Repeat("\xff", 1<<20))
	wantNone(t, strings.Repeat("\x01\x00\x00", 1<<18))
	wantNone(t, "\x01\x00\x01\x01"+strings.Repeat("\x04\x00\x01a", 1<<18))
}
