package slot_test

import (
	"math"
	"math/rand"
	"strings"
	"testing"

	"pithead/api"
	"pithead/crc"
	"pithead/page"
	"pithead/slot"
	"pithead/take"
)

// six is a number's six bytes, the highest first.
func six(n int) string {
	b := make([]byte, 6)
	for i := range b {
		b[i] = byte(n >> (40 - 8*i))
	}
	return string(b)
}

// record is a sector as the document tells a record, whatever is in it.
func record(letter, begin, end, numbers string) string {
	s := letter + begin + numbers
	return crc.Close(s+strings.Repeat("\x00", 118-len(s))) + end
}

// numbers are a version's numbers as bytes, but for its Gen.
func numbers(r api.Root) string {
	return take.PutNum(r.Pages) + take.PutNum(r.Map) + take.PutNum(r.Catalog) + take.PutNum(r.Nodes) + take.PutNum(r.Top)
}

// version is one that may be.
func version(gen, at, catalog, nodes, top int) api.Root {
	return api.Root{Gen: gen, Pages: page.Count(catalog) + page.Count(nodes), Map: at, Catalog: catalog, Nodes: nodes, Top: top}
}

func put(t *testing.T, r api.Root) string {
	t.Helper()
	s, e := slot.Put(r)
	if e != api.OK || len(s) != api.Sector {
		t.Fatalf("Put(%v) = %q, %v", r, s, e)
	}
	return s
}

const most = 1 << 40

// edges are versions that may be, just so.
func edges() []api.Root {
	full := 246 * (2047 - 1)
	return []api.Root{
		version(1, 0, 1, 0, 0),
		version(most, 2046, 1, 1, 0),
		version(3, 7, 246, 246, 245),
		version(4, 7, 247, 247, 246),
		version(255, 1, 300, 100, 0), version(256, 1, 300, 100, 1), version(1<<32+5, 1, 300, 100, 99),
		version(5, 2, 246*2047, 0, 0),
		version(6, 2, full, 246, 200),
		version(7, 2, 1, full, full-1),
		version(8, 2, full, 1, 0),
	}
}

// wrong are versions that may not be, beside edges.
func wrong() map[string]api.Root {
	l := map[string]api.Root{
		"nothing":              {},
		"a Gen of 0":           version(0, 0, 9, 4, 0),
		"a Gen below 0":        version(-1, 0, 9, 4, 0),
		"the least Gen":        version(math.MinInt, 0, 9, 4, 0),
		"a Gen too great":      version(most+1, 0, 9, 4, 0),
		"the greatest Gen":     version(math.MaxInt, 0, 9, 4, 0),
		"no catalog":           version(1, 0, 0, 4, 0),
		"a catalog below 0":    version(1, 0, -1, 4, 0),
		"a Top at the end":     version(1, 0, 9, 4, 4),
		"a Top beyond the end": version(1, 0, 9, 4, math.MaxInt),
		"a Top below 0":        version(1, 0, 9, 4, -1),
		"a Top of no nodes":    version(1, 0, 9, 0, 1),
		"below 0, of no nodes": version(1, 0, 9, 0, -1),
		"nodes below 0":        version(1, 0, 9, -1, 0),
		"the least nodes":      version(1, 0, 9, math.MinInt, 0),
		"nodes too many":       version(1, 0, 9, 1<<20+1, 0),
		"the most nodes":       version(1, 0, 9, math.MaxInt, 0),
		"pages too many":       version(1, 0, 246*2047+1, 0, 0),
		"pages too many, both": version(1, 0, 246*2046, 247, 0),
		"the most bytes":       version(1, 0, math.MaxInt, math.MaxInt, 0),
		"a Map below 0":        version(1, -1, 9, 4, 0),
		"a Map too great":      version(1, 2047, 9, 4, 0),
		"the greatest Map":     version(1, math.MaxInt, 9, 4, 0),
	}
	for name, by := range map[string]int{"a page too many": 1, "a page too few": -1, "pages of both together": -2} {
		r := version(3, 1, 9, 4, 0)
		r.Pages += by
		l[name] = r
	}
	together := version(3, 1, 100, 100, 0) // 200 bytes would be one page, if they stood together
	together.Pages = 1
	l["the pages of all bytes together"] = together
	return l
}

func TestP9_1_Check(t *testing.T) {
	for _, r := range edges() {
		if e := slot.Check(r); e != api.OK {
			t.Errorf("Check(%v) = %v", r, e)
		}
	}
	for name, r := range wrong() {
		if e := slot.Check(r); e != api.ErrArg {
			t.Errorf("%s: Check(%v) = %v", name, r, e)
		}
		if s, e := slot.Put(r); s != "" || e != api.ErrArg {
			t.Errorf("%s: Put(%v) = %q, %v", name, r, s, e)
		}
	}
}

// TestP9_1_MostNodes: 2^20 bytes of nodes would take more pages than there may be; so would every number above 246 * 2046.
func TestP9_1_MostNodes(t *testing.T) {
	if e := slot.Check(version(1, 0, 1, 246*2046+1, 0)); e != api.ErrArg {
		t.Errorf("2047 pages of nodes, and a catalog: %v", e)
	}
	if e := slot.Check(version(1, 0, 1, 1<<20, 0)); e != api.ErrArg {
		t.Errorf("2^20 bytes of nodes: %v", e)
	}
}

func TestP9_1_Put(t *testing.T) {
	r := api.Root{Gen: 0x010203040506, Pages: 5, Map: 300, Catalog: 700, Nodes: 400, Top: 129}
	if e := slot.Check(r); e != api.ErrArg {
		t.Errorf("Check of a Gen beyond 2^40: %v", e)
	}
	r.Gen = 0x90a0b0c0d
	gen := "\x00\x09\x0a\x0b\x0c\x0d"
	want := record("V", gen, gen, "\x05\x81\x2c\x82\xbc\x81\x90\x80\x81")
	if s := put(t, r); s != want {
		t.Errorf("Put = %q, want %q", s, want)
	}
	for _, r := range edges() {
		if s, want := put(t, r), record("V", six(r.Gen), six(r.Gen), numbers(r)); s != want {
			t.Errorf("Put(%v) = %q, want %q", r, s, want)
		}
	}
}

func wantForm(t *testing.T, what, s string) {
	t.Helper()
	if r, e := slot.Take(s); r != (api.Root{}) || e != api.ErrForm {
		t.Errorf("%s: Take(%q) = %v, %v", what, s, r, e)
	}
}

func TestP9_1_Take(t *testing.T) {
	r := version(0x0203, 7, 300, 100, 5)
	gen, n := six(0x0203), numbers(r)
	s := record("V", gen, gen, n)
	if got, e := slot.Take(s); got != r || e != api.OK {
		t.Errorf("Take = %v, %v, want %v", got, e, r)
	}
	for _, c := range []struct{ name, s string }{
		{"nothing", ""},
		{"noughts", strings.Repeat("\x00", 128)},
		{"a letter", "V"},
		{"a byte less", s[:127]},
		{"a byte more", s + "\x00"},
		{"twice", s + s},
		{"another letter", record("W", gen, gen, n)},
		{"a small letter", record("v", gen, gen, n)},
		{"another end", record("V", gen, six(0x0204), n)},
		{"another beginning", record("V", six(0x0204), gen, n)},
		{"a byte behind the numbers", record("V", gen, gen, n+"\x01")},
		{"a byte ahead of the sum", record("V", gen, gen, n+strings.Repeat("\x00", 110-len(n))+"\x01")},
		{"a longer form", record("V", gen, gen, "\x80"+n)},
		{"numbers that break off", record("V", gen, gen, strings.Repeat("\xff", 111))},
		{"the greatest numbers", record("V", gen, gen, strings.Repeat("\xff", 45))},
		{"another sum", s[:118] + "\x00\x00\x00\x00" + gen},
		{"a sum with the end", s[:118] + crc.Tail(crc.Of(s[:118]+gen)) + gen},
	} {
		wantForm(t, c.name, c.s)
	}
	for at := range len(s) {
		for bit := range 8 {
			b := []byte(s)
			b[at] ^= 1 << bit
			wantForm(t, "a bit turned", string(b))
		}
	}
}

// TestP9_1_TakeChecks: a record's form alone does not make a version that may be.
func TestP9_1_TakeChecks(t *testing.T) {
	for name, r := range wrong() {
		if min(r.Pages, r.Map, r.Catalog, r.Nodes, r.Top) < 0 {
			continue // no number's bytes tell it
		}
		wantForm(t, name, record("V", six(r.Gen), six(r.Gen), numbers(r)))
	}
	wantForm(t, "a Gen of six full bytes", record("V", six(-1), six(-1), numbers(version(1, 0, 9, 4, 0))))
}

func TestP9_2_Place(t *testing.T) {
	for _, c := range []struct{ gen, i int }{
		{0, 0}, {1, 1}, {2, 0}, {3, 1}, {most, 0}, {most - 1, 1}, {-1, 1}, {-2, 0}, {-3, 1},
		{math.MaxInt, 1}, {math.MinInt, 0}, {math.MinInt + 1, 1},
	} {
		if got := slot.Place(c.gen); got != c.i {
			t.Errorf("Place(%d) = %d, want %d", c.gen, got, c.i)
		}
	}
}

func TestP9_2_Stands(t *testing.T) {
	for _, r := range edges() {
		s := put(t, r)
		for _, i := range []int{0, 1, 2, -1, 3, math.MinInt, math.MaxInt, r.Gen} {
			want, is := api.Root{}, i == r.Gen%2
			if is {
				want = r
			}
			if got, ok := slot.Stands(i, s); got != want || ok != is {
				t.Errorf("Stands(%d) of Gen %d = %v, %v", i, r.Gen, got, ok)
			}
		}
	}
	for _, i := range []int{0, 1} {
		for _, s := range []string{"", strings.Repeat("\x00", 128), put(t, version(3+i, 0, 9, 4, 0))[:127]} {
			if got, ok := slot.Stands(i, s); got != (api.Root{}) || ok {
				t.Errorf("Stands(%d, %q) = %v, %v", i, s, got, ok)
			}
		}
	}
}

func TestP9_2_Choose(t *testing.T) {
	gen := func(n int) string { return put(t, version(n, n%2047, 9, 4, 0)) }
	none := strings.Repeat("\x00", 128)
	for _, c := range []struct {
		name string
		a, b string
		gen  int
	}{
		{"none", none, none, 0},
		{"nothing", "", "", 0},
		{"the first", none, gen(1), 1},
		{"the second", gen(2), gen(1), 2},
		{"the third", gen(2), gen(3), 3},
		{"far apart", gen(most), gen(1), most},
		{"far apart, the other way", gen(2), gen(most - 1), most - 1},
		{"the even one alone", gen(4), none, 4},
		{"the odd one alone", "", gen(5), 5},
		{"both in the wrong slot", gen(3), gen(4), 0},
		{"the later one in the wrong slot", gen(4), gen(6), 4},
		{"the odd one in both", gen(5), gen(5), 5},
		{"the even one in both", gen(6), gen(6), 6},
		{"the later one torn", gen(4)[:100] + none[100:], gen(3), 3},
		{"the later odd one torn", gen(4), gen(5)[:127] + "\x00", 4},
		{"both torn", gen(4)[:127], gen(5)[:127], 0},
	} {
		want := api.Root{}
		if c.gen != 0 {
			want = version(c.gen, c.gen%2047, 9, 4, 0)
		}
		if got, ok := slot.Choose(c.a, c.b); got != want || ok != (c.gen != 0) {
			t.Errorf("%s: Choose = %v, %v, want %v", c.name, got, ok, want)
		}
	}
}

// TestP9_3: of a record over one of another Gen, however the write is torn, there is the one, the other, or none.
func TestP9_3(t *testing.T) {
	r := rand.New(rand.NewSource(93))
	gens := []int{1, 2, 3, 4, 255, 256, 257, 258, 0x0100, 0x010100, 0x010001, 1 << 32, 1<<32 + 2, most - 1, most}
	all := map[api.Root]string{}
	for _, g := range gens {
		for range 3 {
			catalog, nodes := 1+r.Intn(1000), 1+r.Intn(5000)
			v := version(g, r.Intn(2047), catalog, nodes, r.Intn(nodes))
			all[v] = put(t, v)
		}
	}
	for a, old := range all {
		for b, late := range all {
			if a.Gen == b.Gen {
				continue
			}
			for n := range 129 {
				got, e := slot.Take(late[:n] + old[n:])
				if e == api.OK && got != a && got != b {
					t.Errorf("of %v over %v, torn at %d, there is %v", b, a, n, got)
				}
				if n == 0 && got != a || n == 128 && got != b {
					t.Errorf("of %v over %v, %d bytes of it, there is %v", b, a, n, got)
				}
			}
		}
	}
}
