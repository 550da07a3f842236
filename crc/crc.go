// Package crc is layer 2: see ../../shared/doc/02-crc.md.
package crc

// size is how many bytes a sum has.
const size = 4

// halves tells what becomes of four bits that go out of a sum: the polynomial 1edc6f41, its bits the lowest first.
var halves = [16]uint32{
	0x00000000, 0x105ec76f, 0x20bd8ede, 0x30e349b1,
	0x417b1dbc, 0x5125dad3, 0x61c69362, 0x7198540d,
	0x82f63b78, 0x92a8fc17, 0xa24bb5a6, 0xb21572c9,
	0xc38d26c4, 0xd3d3e1ab, 0xe330a81a, 0xf36e6f75,
}

// half goes on over the four lowest bits of b.
func half(sum uint32, b byte) uint32 {
	return sum>>4 ^ halves[(byte(sum)^b)&15]
}

// More goes on from a sum over bytes.
func More(sum uint32, s string) uint32 {
	turned := ^sum
	for i := range len(s) {
		turned = half(half(turned, s[i]), s[i]>>4)
	}
	return ^turned
}

// Of is the sum of texts, one behind the other.
func Of(l ...string) uint32 {
	sum := uint32(0)
	for _, s := range l {
		sum = More(sum, s)
	}
	return sum
}

// Tail is a sum as four bytes, the lowest first.
func Tail(n uint32) string {
	var b [size]byte
	for i := range size {
		b[i] = byte(n >> (8 * i))
	}
	return string(b[:])
}

// Close is a text with its sum behind it.
func Close(s string) string { return s + Tail(Of(s)) }

// Open is the text of such a one; false: it is none.
func Open(s string) (string, bool) {
	if len(s) < size {
		return "", false
	}
	end := len(s) - size
	if s[end:] != Tail(Of(s[:end])) {
		return "", false
	}
	return s[:end], true
}
