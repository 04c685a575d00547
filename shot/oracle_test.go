package shot

import (
	"encoding/binary"

	"sexton/api"
	"sexton/mach"
)

// The chapter's words once more, written and read byte by byte.

// big are the last size bytes of a number.
func big(n, size int) string {
	return string(binary.BigEndian.AppendUint64(nil, uint64(n))[8-size:])
}

// field is a field as bytes.
func field(tag int, value string) string {
	return big(tag, 1) + big(len(value), 2) + value
}

func handleBytes(h api.Handle) string { return big(h.No, 1) + big(h.Gen, 6) }

func attrBytes(a api.Attr) string {
	return big(a.Kind, 1) + big(a.Links, 1) + big(a.Size, 4) + big(a.Stamp, 6)
}

func headField(x api.Inode) string {
	return field(1, big(x.Gen, 6)+attrBytes(x.Attr)+big(x.Next, 6))
}

func inodeBytes(x api.Inode) string {
	b := headField(x)
	for _, r := range x.Runs {
		b += field(2, big(r.At, 4)+r.Data)
	}
	for _, y := range x.Entries {
		b += field(3, big(y.Cookie, 6)+handleBytes(y.To)+y.Name)
	}
	return b
}

// stateBytes are the bytes of any state, and whether no value is too long.
func stateBytes(s api.State) (string, bool) {
	b := field(1, big(s.Done, 6))
	short := true
	for _, x := range s.Inodes {
		value := inodeBytes(x)
		short = short && len(value) <= 65535
		b += field(2, value)
	}
	for _, x := range s.Opens {
		b += field(3, big(x.Fd, 1)+big(x.Client, 6)+handleBytes(x.Of))
	}
	for _, x := range s.Seats {
		b += field(4, big(x.Client, 6)+big(x.Req, 6)+x.Reply)
	}
	return b, short
}

// reader reads bytes, and is wrong from the first that is missing on.
type reader struct {
	b     string
	wrong bool
}

func (r *reader) bytes(n int) string {
	if n > len(r.b) {
		r.b, r.wrong = "", true
		return ""
	}
	s := r.b[:n]
	r.b = r.b[n:]
	return s
}

func (r *reader) number(size int) int {
	n := 0
	for _, c := range []byte(r.bytes(size)) {
		n = n*256 + int(c)
	}
	return n
}

// next is whether the next field has that tag, and what reads its value.
func (r *reader) next(tag int) (*reader, bool) {
	if r.b == "" || int(r.b[0]) != tag {
		return nil, false
	}
	r.bytes(1)
	v := &reader{b: r.bytes(r.number(2))}
	return v, !r.wrong
}

// end is wrong, if something is left.
func (r *reader) end(v *reader) { r.wrong = r.wrong || v.wrong || v.b != "" }

func (r *reader) handle() api.Handle { return api.Handle{No: r.number(1), Gen: r.number(6)} }

func (r *reader) inode() api.Inode {
	var x api.Inode
	v, ok := r.next(1)
	if !ok {
		r.wrong = true
		return x
	}
	x.Gen = v.number(6)
	x.Attr.Kind, x.Attr.Links, x.Attr.Size, x.Attr.Stamp = v.number(1), v.number(1), v.number(4), v.number(6)
	x.Next = v.number(6)
	r.end(v)
	for v, ok := r.next(2); ok; v, ok = r.next(2) {
		x.Runs = append(x.Runs, api.Run{At: v.number(4), Data: v.bytes(len(v.b))})
		r.end(v)
	}
	for v, ok := r.next(3); ok; v, ok = r.next(3) {
		x.Entries = append(x.Entries, api.Entry{Cookie: v.number(6), To: v.handle(), Name: v.bytes(len(v.b))})
		r.end(v)
	}
	return x
}

// parse is the whole state that bytes are, and whether they are one.
func parse(b string) (api.State, bool) {
	var s api.State
	r := &reader{b: b}
	v, ok := r.next(1)
	if !ok {
		return s, false
	}
	s.Done = v.number(6)
	r.end(v)
	for v, ok := r.next(2); ok; v, ok = r.next(2) {
		s.Inodes = append(s.Inodes, v.inode())
		r.end(v)
	}
	for v, ok := r.next(3); ok; v, ok = r.next(3) {
		s.Opens = append(s.Opens, api.Open{Fd: v.number(1), Client: v.number(6), Of: v.handle()})
		r.end(v)
	}
	for v, ok := r.next(4); ok; v, ok = r.next(4) {
		s.Seats = append(s.Seats, api.Seat{Client: v.number(6), Req: v.number(6), Reply: v.bytes(len(v.b))})
		r.end(v)
	}
	return s, !r.wrong && r.b == "" && mach.Check(s) == api.OK
}
