package num_test

import (
	"math"
	"math/rand"
	"slices"
	"strconv"
	"strings"
	"testing"

	"pithead/num"
)

// sizeOf is how many bytes a number takes, told by its bits: 7 of them a byte, as long as eight bytes do.
func sizeOf(n uint64) int {
	digits := len(strconv.FormatUint(n, 2))
	return min((digits+6)/7, 9)
}

// form is the bytes of a number in so many bytes, as the document tells them, made of a text of bits.
func form(n uint64, size int) string {
	head := strings.Repeat("1", size-1)
	if size < 9 {
		head += "0"
	}
	digits := strconv.FormatUint(n, 2)
	text := head + strings.Repeat("0", 8*size-len(head)-len(digits)) + digits
	var b strings.Builder
	for i := 0; i < len(text); i += 8 {
		c, _ := strconv.ParseUint(text[i:i+8], 2, 8)
		b.WriteByte(byte(c))
	}
	return b.String()
}

// edges are the numbers round about which the forms and the kinds of numbers change; rising.
func edges() []uint64 {
	l := []uint64{0, 1, 2, 3, 126, 127, math.MaxUint64 - 1, math.MaxUint64}
	for shift := 7; shift < 64; shift++ {
		for d := range uint64(3) {
			l = append(l, 1<<shift-1+d)
		}
	}
	slices.Sort(l)
	return slices.Compact(l)
}

// many are edges, and numbers of all lengths.
func many() []uint64 {
	r := rand.New(rand.NewSource(1))
	l := edges()
	for i := range 2000 {
		l = append(l, r.Uint64()>>(i%64))
	}
	slices.Sort(l)
	return slices.Compact(l)
}

func wantNone(t *testing.T, s string) {
	t.Helper()
	if n, k, ok := num.Take(s); n != 0 || k != 0 || ok {
		t.Errorf("Take(%x) = %d, %d, %v: it begins with no number", s, n, k, ok)
	}
	if n, k, ok := num.TakeInt(s); n != 0 || k != 0 || ok {
		t.Errorf("TakeInt(%x) = %d, %d, %v: it begins with no number", s, n, k, ok)
	}
}

func TestP1_1_Put(t *testing.T) {
	for _, c := range []struct {
		n uint64
		s string
	}{
		{0, "\x00"}, {127, "\x7f"}, {128, "\x80\x80"}, {16383, "\xbf\xff"}, {16384, "\xc0\x40\x00"},
		{1<<21 - 1, "\xdf\xff\xff"}, {1 << 21, "\xe0\x20\x00\x00"},
		{1<<56 - 1, "\xfe\xff\xff\xff\xff\xff\xff\xff"}, {1 << 56, "\xff\x01\x00\x00\x00\x00\x00\x00\x00"},
		{math.MaxUint64, "\xff\xff\xff\xff\xff\xff\xff\xff\xff"},
	} {
		if got := num.Put(c.n); got != c.s {
			t.Errorf("Put(%d) = %x, want %x", c.n, got, c.s)
		}
	}
	for _, n := range many() {
		size := sizeOf(n)
		if got := num.Size(n); got != size {
			t.Errorf("Size(%d) = %d, want %d", n, got, size)
		}
		if got, want := num.Put(n), form(n, size); got != want {
			t.Errorf("Put(%d) = %x, want %x", n, got, want)
		}
	}
}

func TestP1_1_Take(t *testing.T) {
	for _, n := range many() {
		s := form(n, sizeOf(n))
		for _, tail := range []string{"", "\x00", "\xff", "\x80\x80 and more"} {
			if got, k, ok := num.Take(s + tail); got != n || k != len(s) || !ok {
				t.Errorf("Take(%x) = %d, %d, %v, want %d", s+tail, got, k, ok, n)
			}
		}
		for cut := range len(s) {
			wantNone(t, s[:cut])
		}
		for size := len(s) + 1; size <= 9; size++ {
			wantNone(t, form(n, size))
			wantNone(t, form(n, size)+"\x00")
		}
	}
}

// TestP1_1_TakeOfAll: of any two bytes, with enough behind them, Take tells the number whose Put they begin with, or none.
func TestP1_1_TakeOfAll(t *testing.T) {
	for first := range 256 {
		for second := range 256 {
			s := string([]byte{byte(first), byte(second)}) + "\x01\x02\x03\x04\x05\x06\x07"
			n, k, ok := num.Take(s)
			if ok && (num.Put(n) != s[:k] || k != sizeOf(n)) {
				t.Errorf("Take(%x) = %d, %d", s, n, k)
			}
			short := first >= 0x80 && first < 0xc0 && first&0x3f == 0 && second < 0x80
			if first < 0xc0 && ok == short {
				t.Errorf("Take(%x) tells %v", s, ok)
			}
		}
	}
}

func TestP1_2_Fold(t *testing.T) {
	for i, n := range []int64{0, -1, 1, -2, 2, -3, 3} {
		if num.Fold(n) != uint64(i) || num.Unfold(uint64(i)) != n {
			t.Errorf("Fold(%d) = %d, Unfold(%d) = %d", n, num.Fold(n), i, num.Unfold(uint64(i)))
		}
	}
	for _, c := range []struct {
		n int64
		u uint64
	}{
		{63, 126}, {-64, 127}, {64, 128}, {1 << 62, 1 << 63}, {-1 << 62, 1<<63 - 1},
		{math.MaxInt64, math.MaxUint64 - 1}, {math.MinInt64, math.MaxUint64},
	} {
		if num.Fold(c.n) != c.u || num.Unfold(c.u) != c.n {
			t.Errorf("Fold(%d) = %d, Unfold(%d) = %d", c.n, num.Fold(c.n), c.u, num.Unfold(c.u))
		}
	}
	for _, u := range many() {
		if num.Fold(num.Unfold(u)) != u {
			t.Errorf("Fold of Unfold(%d) = %d", u, num.Fold(num.Unfold(u)))
		}
	}
}

func TestP1_2_Int(t *testing.T) {
	for _, u := range many() {
		n := int64(u)
		folded := 2 * u
		if n < 0 {
			folded = 2*-u - 1
		}
		s := form(folded, sizeOf(folded))
		if got := num.PutInt(n); got != s {
			t.Errorf("PutInt(%d) = %x, want %x", n, got, s)
		}
		if got, k, ok := num.TakeInt(s + "\x00"); got != n || k != len(s) || !ok {
			t.Errorf("TakeInt(%x) = %d, %d, %v, want %d", s, got, k, ok, n)
		}
	}
	for _, s := range []string{"", "\x80", "\x80\x7f", "\xc0\x3f\xff", "\xff\x00\xff\xff\xff\xff\xff\xff\xff"} {
		wantNone(t, s)
	}
}

func TestP1_3_Row(t *testing.T) {
	if s := num.Row(); s != "" {
		t.Errorf("Row of none = %x", s)
	}
	if s := num.Row(0, 128, 127, 16384); s != "\x00\x80\x80\x7f\xc0\x40\x00" {
		t.Errorf("Row = %x", s)
	}
	l := many()
	var want strings.Builder
	for _, n := range l {
		want.WriteString(form(n, sizeOf(n)))
	}
	before := slices.Clone(l)
	if num.Row(l...) != want.String() {
		t.Error("Row of many is not the bytes of all, one behind the other")
	}
	if !slices.Equal(l, before) {
		t.Error("Row has changed what it was given")
	}
}

func TestP1_3_Rows(t *testing.T) {
	l := many()
	for _, want := range [][]uint64{nil, {0}, {5, 5}, {math.MaxUint64, 0, 300}, l} {
		if got, ok := num.Rows(num.Row(want...)); !ok || !slices.Equal(got, want) {
			t.Errorf("Rows of a Row of %d numbers: %d numbers, %v", len(want), len(got), ok)
		}
	}
	for _, s := range []string{"\x80", "\x00\x80", "\x00\x80\x7f", "\x80\x7f\x00", "\x01\xff\x00\x00\x00\x00\x00\x00\x00\x01", "\x05\xc0\x40"} {
		if got, ok := num.Rows(s); ok || len(got) != 0 {
			t.Errorf("Rows(%x) = %v, %v: it is no Row", s, got, ok)
		}
	}
}

func TestP1_3_RowsAreNew(t *testing.T) {
	s := num.Row(1, 2, 3)
	a, _ := num.Rows(s)
	a[0] = 9
	if b, ok := num.Rows(s); !ok || !slices.Equal(b, []uint64{1, 2, 3}) {
		t.Errorf("Rows = %v behind a change of an earlier answer", b)
	}
}

func TestP1_4(t *testing.T) {
	for _, n := range many() {
		if got, k, ok := num.Take(num.Put(n)); got != n || k != num.Size(n) || !ok {
			t.Errorf("Take of Put(%d) = %d, %d, %v", n, got, k, ok)
		}
	}
}

func TestP1_5(t *testing.T) {
	l := many()
	for i := 1; i < len(l); i++ {
		less, more := num.Put(l[i-1]), num.Put(l[i])
		if less >= more {
			t.Errorf("the bytes of %d, %x, do not stand ahead of those of %d, %x", l[i-1], less, l[i], more)
		}
	}
	some := edges()
	for _, a := range some {
		for _, b := range some {
			if a != b && strings.HasPrefix(num.Put(a), num.Put(b)) {
				t.Errorf("the bytes of %d begin with those of %d", a, b)
			}
		}
	}
}
