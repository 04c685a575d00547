package answer

import (
	"strings"

	"sexton/api"
)

// A second writing of the chapter: bytes are made by shifts alone, and read strictly from the front on, where Unpack packs again what it read.

// field are a field's bytes.
func field(tag byte, value string) string {
	return string([]byte{tag, byte(len(value) >> 8), byte(len(value))}) + value
}

// be are the size low bytes of n, the highest first.
func be(n, size int) string {
	var b []byte
	for i := size - 1; i >= 0; i-- {
		b = append(b, byte(n>>(8*i)))
	}
	return string(b)
}

// attrBytes are attributes' bytes, which need not be right.
func attrBytes(a api.Attr) string {
	return be(a.Kind, 1) + be(a.Links, 1) + be(a.Size, 4) + be(a.Stamp, 6)
}

// written are a reply's bytes, which need not be right.
func written(r api.Reply) string {
	var b strings.Builder
	if r.E != 0 {
		b.WriteString(field(1, be(int(r.E), 2)))
	}
	if r.H.No != 0 || r.H.Gen != 0 {
		b.WriteString(field(2, be(r.H.No, 1)+be(r.H.Gen, 6)))
	}
	if r.Attr.Kind != 0 {
		b.WriteString(field(3, attrBytes(r.Attr)))
	}
	if len(r.Data) > 0 {
		b.WriteString(field(4, r.Data))
	}
	for _, x := range r.Entries {
		b.WriteString(field(5, be(x.Cookie, 6)+be(x.To.No, 1)+be(x.To.Gen, 6)+x.Name))
	}
	if r.N != 0 {
		b.WriteString(field(6, be(r.N, 6)))
	}
	return b.String()
}

// parser reads bytes from the front on; bad tells that something was wrong.
type parser struct {
	s   string
	bad bool
}

// take is the value of the field of that tag at the front, if there is one; from least to most bytes.
func (p *parser) take(tag byte, least, most int) (string, bool) {
	if p.bad || p.s == "" || p.s[0] != tag {
		return "", false
	}
	if len(p.s) < 3 {
		p.bad = true
		return "", false
	}
	n := int(p.s[1])*256 + int(p.s[2])
	if n < least || n > most || len(p.s) < 3+n {
		p.bad = true
		return "", false
	}
	v := p.s[3 : 3+n]
	p.s = p.s[3+n:]
	return v, true
}

// value is the number that bytes are.
func value(s string) int {
	n := 0
	for i := range len(s) {
		n = n*256 + int(s[i])
	}
	return n
}

// refuse is bad from now on, if it must be so.
func (p *parser) refuse(must bool) { p.bad = p.bad || must }

// count is the number of that tag, from 1 to most.
func (p *parser) count(tag byte, size, most int) int {
	v, ok := p.take(tag, size, size)
	p.refuse(ok && (value(v) < 1 || value(v) > most))
	return value(v)
}

// handle is the handle of that tag, which is not the zero one.
func (p *parser) handle(tag byte) api.Handle {
	v, ok := p.take(tag, 7, 7)
	if !ok {
		return api.Handle{}
	}
	p.refuse(value(v) == 0 || value(v[1:]) > api.MaxBig)
	return at(value(v[:1]), value(v[1:]))
}

// attr are the attributes, which are a file's or a folder's.
func (p *parser) attr() api.Attr {
	v, ok := p.take(3, 12, 12)
	if !ok {
		return api.Attr{}
	}
	a := api.Attr{Kind: value(v[:1]), Links: value(v[1:2]), Size: value(v[2:6]), Stamp: value(v[6:])}
	p.refuse(a.Kind != api.KindFile && a.Kind != api.KindDir || a.Kind == api.KindDir && a.Links != 1)
	p.refuse(a.Links > 64 || a.Size > 1<<20 || a.Stamp > 1<<40)
	return a
}

// entries are all that are there.
func (p *parser) entries() []api.Entry {
	var l []api.Entry
	last := 0
	for {
		v, ok := p.take(5, 14, 45)
		if !ok {
			return l
		}
		x := named(v[13:], value(v[:6]), at(value(v[6:7]), value(v[7:13])))
		p.refuse(x.Cookie <= last || x.Cookie > api.MaxBig || x.To.Gen > api.MaxBig || len(l) == 64)
		p.refuse(strings.ContainsAny(x.Name, "/\x00") || x.Name == "." || x.Name == "..")
		last = x.Cookie
		l = append(l, x)
	}
}

// parsed is the reply that bytes are.
func parsed(s string) (api.Reply, api.Errno) {
	p := &parser{s: s}
	r := api.Reply{E: api.Errno(p.count(1, 2, 65535)), H: p.handle(2), Attr: p.attr()}
	r.Data, _ = p.take(4, 1, 512)
	r.Entries = p.entries()
	r.N = p.count(6, 6, api.MaxBig)
	if p.bad || p.s != "" {
		return api.Reply{}, api.ErrForm
	}
	return r, api.OK
}

// near are texts that are not far from s: each byte another one, each left out, some put in at each place.
func near(s string) []string {
	var l []string
	for i := range len(s) {
		for b := range 256 {
			l = append(l, s[:i]+string([]byte{byte(b)})+s[i+1:])
		}
		l = append(l, s[:i]+s[i+1:])
		for _, b := range []byte{0, 1, 2, 5, 6, 7, 255} {
			l = append(l, s[:i]+string([]byte{b})+s[i:])
		}
	}
	return l
}
