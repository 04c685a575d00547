package console

import (
	"sexton/api"
	"sexton/ask"
	"sexton/tlv"
)

// MaxChoices is how many choices a script has.
const MaxChoices = 1000

// The tags of a choice's fields.
const (
	tagKind   = 1
	tagNode   = 2
	tagN      = 3
	tagClient = 4
	tagCall   = 5
)

// How many bytes numbers have.
const (
	byteSize   = 1 // Kind, Node, Client; how many nodes there are
	nSize      = 6
	lengthSize = 2
)

const maxByte = 255

// within tells whether x is from low to high.
func within(low, x, high int) bool { return low <= x && x <= high }

// num is a number as bytes; those of what has a record always fit.
func num(n, size int) string {
	s, _ := tlv.Num(n, size)
	return s
}

// number is the number that bytes are; 0, whose field is left out, if they are none.
func number(s string) int {
	n, _ := tlv.Number(s)
	return n
}

// Pack is a script.
func Pack(n int, l []api.Choice) (string, api.Errno) {
	switch {
	case !within(0, n, maxByte):
		return "", api.ErrArg
	case len(l) > MaxChoices:
		return "", api.ErrLong
	}
	b := []byte(num(n, byteSize))
	for _, x := range l {
		s, there := pack(x)
		if !there {
			return "", api.ErrForm
		}
		b = append(b, num(len(s), lengthSize)...)
		b = append(b, s...)
	}
	return string(b), api.OK
}

// pack is what a choice's record has behind its length, and whether it has one.
func pack(x api.Choice) (string, bool) {
	call, right := packCall(x.Call)
	if !right || !within(api.DoCall, x.Kind, api.DoTrim) || !within(0, x.Node, maxByte) || !within(0, x.Client, maxByte) || !within(0, x.N, api.MaxBig) {
		return "", false
	}
	l := []tlv.Field{{Tag: tagKind, Value: num(x.Kind, byteSize)}}
	add := func(there bool, tag int, value string) {
		if there {
			l = append(l, tlv.Field{Tag: tag, Value: value})
		}
	}
	add(x.Node != 0, tagNode, num(x.Node, byteSize))
	add(x.N != 0, tagN, num(x.N, nSize))
	add(x.Client != 0, tagClient, num(x.Client, byteSize))
	add(call != "", tagCall, call)
	// The tags rise, and no value is too long.
	s, _ := tlv.Pack(l)
	return s, true
}

// packCall is a call as bytes, and whether it may stand in a record; of the zero one none.
func packCall(c api.Call) (string, bool) {
	if c == (api.Call{}) {
		return "", true
	}
	s, e := ask.Pack(c)
	return s, e == api.OK
}

// Unpack is what a script says.
func Unpack(b string) (int, []api.Choice, api.Errno) {
	if b == "" {
		return 0, nil, api.ErrCut
	}
	l, e := records(b[byteSize:], MaxChoices, unpack)
	if e != api.OK {
		return 0, nil, e
	}
	return number(b[:byteSize]), l, api.OK
}

// records are up to most things of which each is told by a record: its length, and bytes of which read tells what they say, and whether they are one at all.
func records[T any](b string, most int, read func(string) (T, bool)) ([]T, api.Errno) {
	var l []T
	for b != "" {
		s, rest, whole := cut(b)
		if !whole {
			return nil, api.ErrForm
		}
		x, right := read(s)
		switch {
		case !right:
			return nil, api.ErrForm
		case len(l) == most:
			return nil, api.ErrLong
		}
		l = append(l, x)
		b = rest
	}
	return l, api.OK
}

// cut is what the first record has behind its length, what is behind it, and whether it is whole.
func cut(b string) (string, string, bool) {
	if len(b) < lengthSize {
		return "", "", false
	}
	end := lengthSize + number(b[:lengthSize])
	if len(b) < end {
		return "", "", false
	}
	return b[lengthSize:end], b[end:], true
}

// unpack is the choice that a record says, and whether it is one's.
func unpack(s string) (api.Choice, bool) {
	l, e := tlv.Unpack(s)
	if e != api.OK {
		return api.Choice{}, false
	}
	var x api.Choice
	for _, f := range l {
		x = with(x, f)
	}
	// A choice has one form: bytes that are not those of the choice that was read are no choice's.
	if form, there := pack(x); !there || form != s {
		return api.Choice{}, false
	}
	return x, true
}

// with is a choice with what a field says; of a tag that is none, the choice as it is.
func with(x api.Choice, f tlv.Field) api.Choice {
	switch f.Tag {
	case tagKind:
		x.Kind = number(f.Value)
	case tagNode:
		x.Node = number(f.Value)
	case tagN:
		x.N = number(f.Value)
	case tagClient:
		x.Client = number(f.Value)
	case tagCall:
		// The zero one, whose field is left out, if they are no call's.
		x.Call, _ = ask.Unpack(f.Value)
	}
	return x
}
