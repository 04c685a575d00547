package memo

import (
	"encoding/binary"
	"hash/crc32"

	"sexton/api"
	"sexton/shard"
)

// A second writing of the chapter's words, for numbers that their bytes can have.

// big is a number in size bytes, the highest first.
func big(n, size int) string {
	return string(binary.BigEndian.AppendUint64(nil, uint64(n))[8-size:])
}

// small is the number that bytes are.
func small(s string) int {
	n := 0
	for _, c := range []byte(s) {
		n = n*256 + int(c)
	}
	return n
}

// field is a tag, a length, a value.
func field(tag int, value string) string {
	return big(tag, 1) + big(len(value), 2) + value
}

// guarded is a text with its sum, the lowest byte first.
func guarded(s string) string {
	return string(binary.LittleEndian.AppendUint32([]byte(s), crc32.ChecksumIEEE([]byte(s))))
}

func itemBytes(x api.Item) string {
	return big(x.View, 6) + big(x.Client, 6) + big(x.Req, 6) + x.Body
}

func manBytes(x shard.Manifest) string {
	return big(x.Op, 6) + big(x.Size, 2) + big(x.Sum, 4)
}

// parts are a memo's fields, each as bytes.
func parts(m Memo) []string {
	l := []string{field(1, big(m.Kind, 1))}
	for i, n := range []int{m.View, m.Normal, m.Op, m.Commit, m.Base, m.Low, m.Client} {
		if n != 0 {
			l = append(l, field(2+i, big(n, 6)))
		}
	}
	for _, n := range m.Lives {
		l = append(l, field(9, big(n, 6)))
	}
	for _, x := range m.Items {
		l = append(l, field(10, itemBytes(x)))
	}
	if m.Man != (shard.Manifest{}) {
		l = append(l, field(11, manBytes(m.Man)))
	}
	if m.Number != 0 {
		l = append(l, field(12, big(m.Number, 2)))
	}
	if m.Data != "" {
		l = append(l, field(13, m.Data))
	}
	return l
}

// packed are a memo's bytes.
func packed(m Memo) string { return guarded(plain(parts(m))) }

// plain is a list of texts, one behind the other.
func plain(l []string) string {
	s := ""
	for _, x := range l {
		s += x
	}
	return s
}

// isBig tells whether a number is from 0 to MaxBig.
func isBig(n int) bool { return n >= 0 && n <= 1<<40 }

// isRight tells whether a memo is right.
func isRight(m Memo) bool {
	if m.Kind < 1 || m.Kind > 12 || m.Number < 0 || m.Number > 65535 || len(m.Data) > 8192 || len(m.Items) > 256 {
		return false
	}
	for _, n := range append([]int{m.View, m.Normal, m.Op, m.Commit, m.Base, m.Low, m.Client}, m.Lives...) {
		if !isBig(n) {
			return false
		}
	}
	switch len(m.Lives) {
	case 0, 1, 3, 5, 7:
	default:
		return false
	}
	for _, x := range m.Items {
		if !isBig(x.View) || !isBig(x.Client) || !isBig(x.Req) || x.Req == 0 || len(x.Body) > 4096 {
			return false
		}
	}
	x := m.Man
	return x == shard.Manifest{} || isBig(x.Op) && x.Size >= 1 && x.Size <= 65535 && x.Sum >= 0 && x.Sum <= 1<<32-1
}

// parse is the right memo whose bytes these are, and whether there is one: what may be read of them is read, and held against them as bytes.
func parse(s string) (Memo, bool) {
	var m Memo
	if len(s) < 4 || len(s) > 60000 {
		return m, false
	}
	rest := s[:len(s)-4]
	numbers := []*int{nil, &m.Kind, &m.View, &m.Normal, &m.Op, &m.Commit, &m.Base, &m.Low, &m.Client}
	for len(rest) >= 3 {
		tag, n := int(rest[0]), small(rest[1:3])
		if 3+n > len(rest) {
			break
		}
		v := rest[3 : 3+n]
		rest = rest[3+n:]
		switch {
		case tag >= 1 && tag <= 8 && n <= 6:
			*numbers[tag] = small(v)
		case tag == 9 && n == 6:
			m.Lives = append(m.Lives, small(v))
		case tag == 10 && n >= 18:
			m.Items = append(m.Items, api.Item{View: small(v[:6]), Client: small(v[6:12]), Req: small(v[12:18]), Body: v[18:]})
		case tag == 11 && n == 12:
			m.Man = shard.Manifest{Op: small(v[:6]), Size: small(v[6:8]), Sum: small(v[8:])}
		case tag == 12 && n == 2:
			m.Number = small(v)
		case tag == 13:
			m.Data = v
		}
	}
	if !isRight(m) || packed(m) != s {
		return Memo{}, false
	}
	return m, true
}
