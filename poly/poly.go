// Package poly is layer 2: see shared/doc/02-poly.md.
package poly

import "sexton/api"

const (
	maxSum   = 1<<32 - 1
	maxBytes = 1 << 20 // bytes of the second text of Join
	sumSize  = 4       // bytes of a sum that guards

	// Powers of x stand with their bits turned: the highest power is the lowest bit.
	polynomial = 0xEDB88320
	xTo0       = 1 << 31
	xTo8       = 1 << 23
)

// halves has, of each half of a byte, what four steps bit by bit leave of it.
var halves = [16]uint32{
	0x00000000, 0x1DB71064, 0x3B6E20C8, 0x26D930AC,
	0x76DC4190, 0x6B6B51F4, 0x4DB26158, 0x5005713C,
	0xEDB88320, 0xF00F9344, 0xD6D6A3E8, 0xCB61B38C,
	0x9B64C2B0, 0x86D3D2D4, 0xA00AE278, 0xBDBDF21C,
}

// Sum is the sum of bytes.
func Sum(s string) int { return int(goOn(0, s)) }

// More is the sum of a text with more behind it.
func More(sum int, s string) (int, api.Errno) {
	if !isSum(sum) {
		return 0, api.ErrArg
	}
	return int(goOn(uint32(sum), s)), api.OK
}

// Join is the sum of two texts from theirs.
func Join(a, b, n int) (int, api.Errno) {
	if !isSum(a) || !isSum(b) || n < 0 || n > maxBytes {
		return 0, api.ErrArg
	}
	// The second text moves the first one's bits up by 8 n powers; the bits 1 ahead and the turn at the end cancel out.
	return int(times(uint32(a), xTo8n(n)) ^ uint32(b)), api.OK
}

// Guard is a text with its sum.
func Guard(s string) string {
	sum := goOn(0, s)
	return s + string([]byte{byte(sum), byte(sum >> 8), byte(sum >> 16), byte(sum >> 24)})
}

// Unguard is the text that has its sum.
func Unguard(s string) (string, api.Errno) {
	if len(s) < sumSize {
		return "", api.ErrCut
	}
	text := s[:len(s)-sumSize]
	if Guard(text) != s {
		return "", api.ErrSum
	}
	return text, api.OK
}

func isSum(n int) bool { return n >= 0 && n <= maxSum }

// goOn is the sum of a text whose beginning has the given sum (0 is that of nothing).
func goOn(sum uint32, s string) uint32 {
	r := ^sum
	for i := range len(s) {
		r ^= uint32(s[i])
		r = r>>4 ^ halves[r&15]
		r = r>>4 ^ halves[r&15]
	}
	return ^r
}

// xTo8n is the remainder of x to the power 8 n, by squares: n steps would be too many for each Join.
func xTo8n(n int) uint32 {
	power, square := uint32(xTo0), uint32(xTo8)
	for ; n > 0; n >>= 1 {
		if n&1 == 1 {
			power = times(power, square)
		}
		square = times(square, square)
	}
	return power
}

// times is the remainder of a product.
func times(a, b uint32) uint32 {
	product := uint32(0)
	for ; a != 0; a <<= 1 {
		if a&xTo0 != 0 {
			product ^= b
		}
		b = timesX(b)
	}
	return product
}

// timesX is the remainder of x times a remainder.
func timesX(r uint32) uint32 {
	if r&1 == 1 {
		return r>>1 ^ polynomial
	}
	return r >> 1
}
