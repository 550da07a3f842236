package crc_test

import (
	"math/bits"
	"math/rand"
	"strings"
	"testing"

	"pithead/crc"
)

// slow is the sum as the document tells it, bit by bit: the lowest bit of a byte first, from all ones on, all turned at the end.
func slow(s string) uint32 {
	reg := ^uint32(0)
	for i := range len(s) {
		for bit := range 8 {
			out := reg>>31 ^ uint32(s[i]>>bit&1)
			reg <<= 1
			if out == 1 {
				reg ^= 0x1edc6f41
			}
		}
	}
	return ^bits.Reverse32(reg)
}

func texts() []string {
	r := rand.New(rand.NewSource(2))
	var every strings.Builder
	for i := range 256 {
		every.WriteByte(byte(i))
	}
	l := []string{"", "\x00", "\xff", "\x00\x00\x00\x00", "a", "123456789", every.String()}
	for n := range 40 {
		b := make([]byte, n)
		r.Read(b)
		l = append(l, string(b))
	}
	return l
}

func TestP2_1_Known(t *testing.T) {
	rise, fall := "", ""
	for i := range 32 {
		rise += string([]byte{byte(i)})
		fall = string([]byte{byte(i)}) + fall
	}
	for _, c := range []struct {
		s   string
		sum uint32
	}{
		{"", 0},
		{"123456789", 0xe3069283},
		{strings.Repeat("\x00", 32), 0x8a9136aa},
		{strings.Repeat("\xff", 32), 0x62a8ab43},
		{rise, 0x46dd794e},
		{fall, 0x113fdb5c},
	} {
		if got := crc.Of(c.s); got != c.sum {
			t.Errorf("Of(%x) = %08x, want %08x", c.s, got, c.sum)
		}
	}
}

func TestP2_1_Sum(t *testing.T) {
	for b := range 256 {
		s := string([]byte{byte(b)})
		if crc.Of(s) != slow(s) {
			t.Errorf("Of(%x) = %08x, want %08x", s, crc.Of(s), slow(s))
		}
	}
	for _, s := range texts() {
		want := slow(s)
		if got := crc.Of(s); got != want {
			t.Errorf("Of(%x) = %08x, want %08x", s, got, want)
		}
		if got := crc.More(0, s); got != want {
			t.Errorf("More(0, %x) = %08x, want %08x", s, got, want)
		}
	}
}

func TestP2_1_More(t *testing.T) {
	for _, s := range texts() {
		want := slow(s)
		for cut := range len(s) + 1 {
			if got := crc.More(slow(s[:cut]), s[cut:]); got != want {
				t.Errorf("More from %d bytes of %x on = %08x, want %08x", cut, s, got, want)
			}
		}
	}
	for _, sum := range []uint32{0, 1, 0x80000000, 0xe3069283, ^uint32(0)} {
		if got := crc.More(sum, ""); got != sum {
			t.Errorf("More(%08x) of no bytes = %08x", sum, got)
		}
	}
}

func TestP2_1_Of(t *testing.T) {
	if got := crc.Of(); got != 0 {
		t.Errorf("Of nothing = %08x", got)
	}
	if got := crc.Of("", "", ""); got != 0 {
		t.Errorf("Of empty texts = %08x", got)
	}
	if got := crc.Of("1234", "", "5", "6789"); got != 0xe3069283 {
		t.Errorf("Of texts, one behind the other = %08x", got)
	}
	l := texts()
	if got, want := crc.Of(l...), slow(strings.Join(l, "")); got != want {
		t.Errorf("Of many texts = %08x, want %08x", got, want)
	}
}

func TestP2_2_Tail(t *testing.T) {
	for _, c := range []struct {
		n uint32
		s string
	}{
		{0, "\x00\x00\x00\x00"}, {1, "\x01\x00\x00\x00"}, {0x01020304, "\x04\x03\x02\x01"},
		{0xe3069283, "\x83\x92\x06\xe3"}, {0xffffffff, "\xff\xff\xff\xff"},
	} {
		if got := crc.Tail(c.n); got != c.s {
			t.Errorf("Tail(%08x) = %x, want %x", c.n, got, c.s)
		}
	}
}

func TestP2_2_Close(t *testing.T) {
	if got := crc.Close("123456789"); got != "123456789\x83\x92\x06\xe3" {
		t.Errorf("Close = %x", got)
	}
	if got := crc.Close(""); got != "\x00\x00\x00\x00" {
		t.Errorf("Close of no bytes = %x", got)
	}
	for _, s := range texts() {
		sum := slow(s)
		want := s + string([]byte{byte(sum), byte(sum >> 8), byte(sum >> 16), byte(sum >> 24)})
		if got := crc.Close(s); got != want {
			t.Errorf("Close(%x) = %x, want %x", s, got, want)
		}
	}
}

func TestP2_2_Open(t *testing.T) {
	for _, s := range []string{"", "a", "ab", "abc", "\x00\x00\x00", "\x00\x00\x00\x01", "abcd", "\x00\x00\x00\x00\x00", "123456789\xe3\x06\x92\x83"} {
		if got, ok := crc.Open(s); got != "" || ok {
			t.Errorf("Open(%x) = %x, %v: it is no Close", s, got, ok)
		}
	}
	if got, ok := crc.Open("\x00\x00\x00\x00"); got != "" || !ok {
		t.Errorf("Open of the Close of no bytes = %x, %v", got, ok)
	}
	if got, ok := crc.Open("123456789\x83\x92\x06\xe3"); got != "123456789" || !ok {
		t.Errorf("Open = %x, %v", got, ok)
	}
}

func TestP2_3_Back(t *testing.T) {
	for _, s := range texts() {
		if got, ok := crc.Open(crc.Close(s)); got != s || !ok {
			t.Errorf("Open of Close(%x) = %x, %v", s, got, ok)
		}
	}
}

// turned is a text with the bits of a pattern turned, from a bit on, the lowest of a byte first.
func turned(s string, from int, pattern uint32) string {
	b := []byte(s)
	for i := range 32 {
		if pattern>>i&1 == 1 {
			b[(from+i)/8] ^= 1 << ((from + i) % 8)
		}
	}
	return string(b)
}

func TestP2_3_Turned(t *testing.T) {
	patterns := []uint32{0xffffffff, 0xaaaaaaaa, 0x55555555, 0x82f63b78, 0x82f63b79, 0x1edc6f41, 0xedb88320}
	for i := range 32 {
		patterns = append(patterns, 1, 1|1<<i, 1<<i)
	}
	r := rand.New(rand.NewSource(3))
	for range 50 {
		patterns = append(patterns, r.Uint32()|1)
	}
	for _, s := range []string{"", "a", "123456789", strings.Repeat("\x00", 40)} {
		whole := crc.Close(s)
		for _, p := range patterns {
			for from := range 8*len(whole) - bits.Len32(p) + 1 {
				if got, ok := crc.Open(turned(whole, from, p)); got != "" || ok {
					t.Fatalf("Open tells %x of Close(%x), turned by %08x from bit %d on", got, s, p, from)
				}
			}
		}
	}
}
