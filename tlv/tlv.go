// Package tlv is layer 1: see shared/doc/01-tlv.md.
package tlv

import "sexton/api"

const (
	minTag   = 1
	maxTag   = 255
	maxValue = 65535
	headSize = 3 // the tag, and the value's length in two bytes
	maxSize  = 8 // bytes of a number
)

// Field is a tag and a value.
type Field struct {
	Tag   int
	Value string
}

// Pack are fields as bytes.
func Pack(l []Field) (string, api.Errno) {
	var b []byte
	last := minTag
	for _, f := range l {
		switch {
		case f.Tag < minTag || f.Tag > maxTag:
			return "", api.ErrArg
		case len(f.Value) > maxValue:
			return "", api.ErrLong
		case f.Tag < last:
			return "", api.ErrOrder
		}
		b = append(b, byte(f.Tag), byte(len(f.Value)>>8), byte(len(f.Value)))
		b = append(b, f.Value...)
		last = f.Tag
	}
	return string(b), api.OK
}

// Unpack are the fields that bytes are.
func Unpack(s string) ([]Field, api.Errno) {
	var l []Field
	last := minTag
fields:
	for {
		switch {
		case s == "":
			break fields
		case len(s) < headSize:
			return nil, api.ErrCut
		case s[0] == 0:
			return nil, api.ErrForm
		case int(s[0]) < last:
			return nil, api.ErrOrder
		}
		end := headSize + int(s[1])<<8 + int(s[2])
		if len(s) < end {
			return nil, api.ErrCut
		}
		last = int(s[0])
		l = append(l, Field{Tag: last, Value: s[headSize:end]})
		s = s[end:]
	}
	return l, api.OK
}

// Num is a number as bytes.
func Num(n, size int) (string, api.Errno) {
	if size < 1 || size > maxSize || n < 0 {
		return "", api.ErrArg
	}
	b := make([]byte, size)
	for i := size - 1; i >= 0; i-- {
		b[i] = byte(n)
		n >>= 8
	}
	// What is left over did not fit.
	if n != 0 {
		return "", api.ErrArg
	}
	return string(b), api.OK
}

// Number is the number that bytes are.
func Number(s string) (int, api.Errno) {
	if len(s) < 1 || len(s) > maxSize {
		return 0, api.ErrArg
	}
	// Only the sign bit of 8 bytes can make it too great for an int.
	if len(s) == maxSize && s[0] >= 0x80 {
		return 0, api.ErrForm
	}
	n := 0
	for i := range len(s) {
		n = n<<8 | int(s[i])
	}
	return n, api.OK
}

// First is the first value of a tag.
func First(l []Field, tag int) (string, bool) {
	for _, f := range l {
		if f.Tag == tag {
			return f.Value, true
		}
	}
	return "", false
}

// All are all values of a tag.
func All(l []Field, tag int) []string {
	var values []string
	for _, f := range l {
		if f.Tag == tag {
			values = append(values, f.Value)
		}
	}
	return values
}
