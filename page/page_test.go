package page_test

import (
	"math"
	"math/rand"
	"slices"
	"strings"
	"testing"

	"pithead/api"
	"pithead/crc"
	"pithead/page"
)

func noughts(n int) string { return strings.Repeat("\x00", n) }

// some is a text of so many bytes, none of them 0.
func some(n int) string {
	var b strings.Builder
	for i := range n {
		b.WriteByte(byte(1 + i%255))
	}
	return b.String()
}

// closed is 252 bytes of which a text is the beginning, with their sum.
func closed(s string) string { return crc.Close(s + noughts(252-len(s))) }

func wantCorrupt(t *testing.T, what, p string) {
	t.Helper()
	if k, i, s, e := page.Take(p); k != 0 || i != 0 || s != "" || e != api.ErrCorrupt {
		t.Errorf("%s: Take = %q, %d, %q, %v", what, k, i, s, e)
	}
	for _, k := range []byte{page.Catalog, page.Nodes, page.Map, 0} {
		if s, e := page.Is(p, k, 0); s != "" || e != api.ErrCorrupt {
			t.Errorf("%s: Is = %q, %v", what, s, e)
		}
	}
}

func TestP8_1_Put(t *testing.T) {
	for _, c := range []struct {
		name  string
		k     byte
		index int
		s     string
		begin string
		e     api.Errno
	}{
		{"no bytes", page.Catalog, 0, "", "C\x00\x00\x00\x00\x00", api.OK},
		{"some bytes", page.Nodes, 3, "ab", "N\x00\x00\x03\x00\x02ab", api.OK},
		{"all bytes", page.Map, 1<<24 - 1, some(246), "M\xff\xff\xff\x00\xf6" + some(246), api.OK},
		{"an index of three bytes", page.Map, 0x010203, "\x00", "M\x01\x02\x03\x00\x01\x00", api.OK},
		{"a byte too many", page.Map, 0, some(247), "", api.ErrLimit},
		{"many too many", page.Catalog, 5, some(70000), "", api.ErrLimit},
		{"another kind", 'X', 0, "", "", api.ErrArg},
		{"a small letter", 'c', 0, "", "", api.ErrArg},
		{"no kind", 0, 0, "", "", api.ErrArg},
		{"an index below 0", page.Nodes, -1, "", "", api.ErrArg},
		{"the least index", page.Nodes, math.MinInt, "", "", api.ErrArg},
		{"an index too great", page.Nodes, 1 << 24, "", "", api.ErrArg},
		{"the greatest index", page.Nodes, math.MaxInt, "", "", api.ErrArg},
		{"another kind, too many bytes", 'X', 0, some(247), "", api.ErrArg},
		{"an index too great, too many bytes", page.Map, 1 << 24, some(247), "", api.ErrArg},
	} {
		want := ""
		if c.e == api.OK {
			want = closed(c.begin)
		}
		if p, e := page.Put(c.k, c.index, c.s); p != want || e != c.e {
			t.Errorf("%s: Put = %q, %v, want %q, %v", c.name, p, e, want, c.e)
		}
	}
}

func TestP8_1_Kinds(t *testing.T) {
	for k := range 256 {
		is := k == 'C' || k == 'N' || k == 'M'
		p, e := page.Put(byte(k), 7, "abc")
		if is != (e == api.OK) || is != (len(p) == 256) || !is && e != api.ErrArg {
			t.Errorf("Put of the kind %d: %d bytes, %v", k, len(p), e)
		}
		q := closed(string([]byte{byte(k)}) + "\x00\x00\x07\x00\x03abc")
		if is {
			if s, e := page.Is(q, byte(k), 7); s != "abc" || e != api.OK {
				t.Errorf("Is of the kind %c = %q, %v", k, s, e)
			}
		} else {
			wantCorrupt(t, "another kind", q)
		}
	}
}

func TestP8_1_Take(t *testing.T) {
	p := closed("N\x00\x00\x03\x00\x02ab")
	if k, i, s, e := page.Take(p); k != 'N' || i != 3 || s != "ab" || e != api.OK {
		t.Errorf("Take = %q, %d, %q, %v", k, i, s, e)
	}
	for _, c := range []struct{ name, p string }{
		{"nothing", ""},
		{"a byte", "N"},
		{"a byte less", p[:255]},
		{"a byte more", p + "\x00"},
		{"noughts", noughts(256)},
		{"the sum's bytes turned round", p[:252] + p[255:] + p[254:255] + p[253:254] + p[252:253]},
		{"noughts and their sum", closed("")},
		{"247 bytes", crc.Close("N\x00\x00\x03\x00\xf7" + some(246))},
		{"more bytes than a page", closed("N\x00\x00\x03\xff\xffab")},
		{"256 bytes", closed("N\x00\x00\x03\x01\x00ab")},
		{"a byte behind its own", closed("N\x00\x00\x03\x00\x02abc")},
		{"a byte far behind its own", closed("N\x00\x00\x03\x00\x02ab" + noughts(243) + "x")},
		{"bytes where it has none", closed("N\x00\x00\x03\x00\x00a")},
		{"a sum of another text", p[:252] + closed("N\x00\x00\x04\x00\x02ab")[252:]},
		{"a sum of its own bytes alone", p[:252] + crc.Tail(crc.Of("ab"))},
		{"a longer page", crc.Close(p[:252] + noughts(4))},
	} {
		wantCorrupt(t, c.name, c.p)
	}
	for at := range len(p) {
		for bit := range 8 {
			b := []byte(p)
			b[at] ^= 1 << bit
			wantCorrupt(t, "a bit turned", string(b))
		}
	}
}

func TestP8_1_Is(t *testing.T) {
	p, _ := page.Put(page.Nodes, 0, "ab")
	if s, e := page.Is(p, page.Nodes, 0); s != "ab" || e != api.OK {
		t.Errorf("Is = %q, %v", s, e)
	}
	last, _ := page.Put(page.Map, 1<<24-1, "")
	if s, e := page.Is(last, page.Map, 1<<24-1); s != "" || e != api.OK {
		t.Errorf("Is of the last index = %q, %v", s, e)
	}
	for _, c := range []struct {
		p     string
		k     byte
		index int
	}{
		{p, page.Catalog, 0}, {p, page.Map, 0}, {p, 'n', 0}, {p, 0, 0},
		{p, page.Nodes, 1}, {p, page.Nodes, -1}, {p, page.Nodes, 1 << 24}, {p, page.Nodes, math.MinInt}, {p, page.Nodes, math.MaxInt},
		{last, page.Map, -1}, {last, page.Map, 0}, {last, page.Map, 1<<32 - 1},
		{p[:255], page.Nodes, 0}, {"", 0, 0},
	} {
		if s, e := page.Is(c.p, c.k, c.index); s != "" || e != api.ErrCorrupt {
			t.Errorf("Is of kind %q, index %d = %q, %v", c.k, c.index, s, e)
		}
	}
}

func TestP8_2_Count(t *testing.T) {
	for _, c := range []struct{ bytes, n int }{
		{0, 0}, {-1, 0}, {-247, 0}, {math.MinInt, 0},
		{1, 1}, {245, 1}, {246, 1}, {247, 2}, {492, 2}, {493, 3}, {1 << 20, 4263},
		{math.MaxInt, (math.MaxInt-1)/246 + 1}, {math.MaxInt - 1, (math.MaxInt-2)/246 + 1},
	} {
		if got := page.Count(c.bytes); got != c.n {
			t.Errorf("Count(%d) = %d, want %d", c.bytes, got, c.n)
		}
	}
}

func TestP8_2_Split(t *testing.T) {
	for _, n := range []int{0, 1, 245, 246, 247, 492, 493, 1000, 100000} {
		for _, first := range []int{0, 5, 1 << 16} {
			s := some(n)
			l, e := page.Split(page.Catalog, first, s)
			if e != api.OK || len(l) != page.Count(n) {
				t.Fatalf("Split of %d bytes: %d pages, %v", n, len(l), e)
			}
			for i, p := range l {
				want, _ := page.Put(page.Catalog, first+i, s[246*i:min(246*i+246, n)])
				if p != want {
					t.Errorf("Split of %d bytes, from %d on: its page %d is another one", n, first, i)
				}
			}
		}
	}
	for _, c := range []struct {
		name  string
		k     byte
		first int
		s     string
		e     api.Errno
	}{
		{"another kind", 'X', 0, "a", api.ErrArg},
		{"below 0", page.Nodes, -1, some(500), api.ErrArg},
		{"the least", page.Nodes, math.MinInt, some(500), api.ErrArg},
		{"above all", page.Nodes, 1 << 24, "a", api.ErrArg},
		{"the greatest", page.Nodes, math.MaxInt, some(500), api.ErrArg},
		{"the second one above all", page.Nodes, 1<<24 - 1, some(247), api.ErrArg},
		{"the last of three above all", page.Nodes, 1<<24 - 2, some(493), api.ErrArg},
		{"the last index", page.Nodes, 1<<24 - 1, some(246), api.OK},
		{"nothing is Put of no bytes", 'X', -1, "", api.OK},
	} {
		l, e := page.Split(c.k, c.first, c.s)
		if e != c.e || e != api.OK && len(l) != 0 || e == api.OK && len(l) != page.Count(len(c.s)) {
			t.Errorf("%s: Split = %d pages, %v, want %v", c.name, len(l), e, c.e)
		}
	}
}

func TestP8_2_Sectors(t *testing.T) {
	p := some(256)
	if got := page.Sectors(p); got != [2]string{p[:128], p[128:]} {
		t.Errorf("Sectors = %q", got)
	}
	for _, n := range []int{0, 1, 128, 255, 257, 512} {
		if got := page.Sectors(some(n)); got != [2]string{} {
			t.Errorf("Sectors of %d bytes = %q", n, got)
		}
	}
}

func TestP8_2_First(t *testing.T) {
	for _, c := range []struct{ n, sector int }{
		{0, 2}, {1, 4}, {2, 6}, {2046, 4094}, {2047, 4096},
		{-1, 0}, {2048, 0}, {math.MinInt, 0}, {math.MaxInt, 0}, {1 << 62, 0},
	} {
		if got := page.First(c.n); got != c.sector {
			t.Errorf("First(%d) = %d, want %d", c.n, got, c.sector)
		}
	}
}

func TestP8_2_Of(t *testing.T) {
	for _, c := range []struct{ sectors, n int }{
		{16, 7}, {17, 7}, {18, 8}, {4095, 2046}, {4096, 2047},
		{15, 0}, {4097, 0}, {0, 0}, {2, 0}, {-16, 0}, {math.MinInt, 0}, {math.MaxInt, 0},
	} {
		if got := page.Of(c.sectors); got != c.n {
			t.Errorf("Of(%d) = %d, want %d", c.sectors, got, c.n)
		}
	}
	for n := 16; n <= 4096; n++ { // the last page is on the device, and no further one would be
		if of := page.Of(n); page.First(of-1)+2 > n || page.First(of)+2 <= n {
			t.Errorf("Of(%d) = %d", n, of)
		}
	}
}

func TestP8_3(t *testing.T) {
	r := rand.New(rand.NewSource(83))
	kinds := []byte{page.Catalog, page.Nodes, page.Map}
	for range 500 {
		k, index := kinds[r.Intn(3)], r.Intn(1<<24)
		b := make([]byte, r.Intn(247))
		r.Read(b)
		p, e := page.Put(k, index, string(b))
		if e != api.OK {
			t.Fatalf("Put = %v", e)
		}
		if k2, i2, s, e := page.Take(p); k2 != k || i2 != index || s != string(b) || e != api.OK {
			t.Errorf("Take of Put(%c, %d, %x) = %c, %d, %x, %v", k, index, b, k2, i2, s, e)
		}
	}
	for range 50 {
		b := make([]byte, r.Intn(3000))
		r.Read(b)
		l, e := page.Split(page.Nodes, 9, string(b))
		var all strings.Builder
		for i, p := range l {
			s, e := page.Is(p, page.Nodes, 9+i)
			if e != api.OK {
				t.Errorf("Split's page %d: %v", i, e)
			}
			all.WriteString(s)
		}
		if e != api.OK || all.String() != string(b) {
			t.Errorf("Split's bytes, one behind the other, are not the text: %v", e)
		}
	}
}

func TestP8_3_PagesAreNew(t *testing.T) {
	a, _ := page.Split(page.Map, 0, some(500))
	want := slices.Clone(a)
	b, _ := page.Split(page.Map, 0, some(500))
	b[0], b[1] = "", ""
	if !slices.Equal(a, want) {
		t.Error("two answers share a list")
	}
}
