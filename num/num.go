// Package num is layer 1: see ../../shared/doc/01-num.md.
package num

import (
	"math/bits"
	"strings"
)

// longest is how many bytes the greatest number takes.
const longest = 9

// Size is how many bytes a number takes.
func Size(n uint64) int {
	for further := range longest - 1 {
		if n < 1<<(7*(further+1)) {
			return further + 1
		}
	}
	return longest
}

// ones is a byte that begins with so many bits 1; the others are 0.
func ones(many int) byte { return ^(byte(0xff) >> many) }

// Put is a number's bytes: the first byte begins with as many ones as there are further bytes.
func Put(n uint64) string {
	var b [longest]byte
	size := Size(n)
	left := n
	for i := range size {
		b[size-1-i] = byte(left)
		left >>= 8
	}
	b[0] |= ones(size - 1)
	return string(b[:size])
}

// Take is the number with whose bytes a text begins, and how many these are; false: there is none.
func Take(s string) (uint64, int, bool) {
	if s == "" {
		return 0, 0, false
	}
	further := bits.LeadingZeros8(^s[0])
	size := further + 1
	if len(s) < size {
		return 0, 0, false
	}
	n := uint64(s[0] &^ ones(further))
	for i := range further {
		n = n<<8 | uint64(s[i+1])
	}
	if Size(n) != size {
		return 0, 0, false
	}
	return n, size, true
}

// Fold lays numbers with a sign beside one another: 0, -1, 1, -2, ..
func Fold(n int64) uint64 { return uint64(n)<<1 ^ uint64(n>>63) }

// Unfold leads back.
func Unfold(n uint64) int64 { return int64(n>>1) ^ -int64(n&1) }

// PutInt, TakeInt are those of a number with a sign.
func PutInt(n int64) string { return Put(Fold(n)) }

func TakeInt(s string) (int64, int, bool) {
	n, size, ok := Take(s)
	return Unfold(n), size, ok
}

// Row is many numbers' bytes.
func Row(l ...uint64) string {
	var b strings.Builder
	for _, n := range l {
		b.WriteString(Put(n))
	}
	return b.String()
}

// Rows is the numbers of which bytes are the Row; false: there are none such.
func Rows(s string) ([]uint64, bool) {
	var l []uint64
	for s != "" {
		n, size, ok := Take(s)
		if !ok {
			return nil, false
		}
		l = append(l, n)
		s = s[size:]
	}
	return l, true
}
