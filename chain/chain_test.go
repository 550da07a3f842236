package chain_test

import (
	"math"
	"math/rand"
	"slices"
	"testing"

	"pithead/api"
	"pithead/chain"
)

// from are so many numbers, from one on.
func from(first, n int) []int {
	var l []int
	for i := range n {
		l = append(l, first+i)
	}
	return l
}

// bytes are numbers, two bytes each.
func bytes(l ...int) string {
	var b []byte
	for _, n := range l {
		b = append(b, byte(n>>8), byte(n))
	}
	return string(b)
}

func TestP12_1_Put(t *testing.T) {
	for _, c := range []struct {
		name  string
		next  int
		pages []int
		s     string
		e     api.Errno
	}{
		{"one, and none behind it", -1, []int{5}, "\x00\x00\x00\x05", api.OK},
		{"nothing", -1, nil, "\x00\x00", api.OK},
		{"nothing, and one behind it", 0, []int{}, "\x00\x01", api.OK},
		{"two bytes", 256, []int{255, 256, 257}, "\x01\x01\x00\xff\x01\x00\x01\x01", api.OK},
		{"a next one's number that fills a byte", 255, nil, "\x01\x00", api.OK},
		{"in the order in which they come", 3, []int{9, 0, 9, 2}, "\x00\x04\x00\x09\x00\x00\x00\x09\x00\x02", api.OK},
		{"the greatest", 2046, []int{2046, 0}, "\x07\xff\x07\xfe\x00\x00", api.OK},
		{"far below 0", math.MinInt, []int{1}, "\x00\x00\x00\x01", api.OK},
		{"just below 0", -2, []int{1}, "\x00\x00\x00\x01", api.OK},
		{"122", 7, from(1, 122), bytes(8) + bytes(from(1, 122)...), api.OK},
		{"123", 7, from(1, 123), "", api.ErrLimit},
		{"123, all else wrong too", 2047, slices.Repeat([]int{-1}, 123), "", api.ErrLimit},
		{"a next one beyond", 2047, []int{1}, "", api.ErrArg},
		{"a next one far beyond", math.MaxInt, []int{1}, "", api.ErrArg},
		{"a page beyond", 1, []int{2047}, "", api.ErrArg},
		{"a page below 0", 1, []int{-1}, "", api.ErrArg},
		{"a page far beyond", -1, []int{0, math.MaxInt}, "", api.ErrArg},
		{"a page far below", -1, []int{math.MinInt, 0}, "", api.ErrArg},
		{"a page whose last bytes may be", -1, []int{1 << 16}, "", api.ErrArg},
		{"the last one of 122", -1, append(from(0, 121), 2047), "", api.ErrArg},
	} {
		l := slices.Clone(c.pages)
		if s, e := chain.Put(c.next, l...); s != c.s || e != c.e {
			t.Errorf("Put of %s = %x, %v, want %x, %v", c.name, s, e, c.s, c.e)
		}
		if !slices.Equal(l, c.pages) {
			t.Errorf("Put of %s has changed what it was given", c.name)
		}
	}
}

func TestP12_1_Take(t *testing.T) {
	for _, c := range []struct {
		name  string
		s     string
		next  int
		pages []int
	}{
		{"one, and none behind it", "\x00\x00\x00\x05", -1, []int{5}},
		{"none", "\x00\x00", -1, nil},
		{"none, and one behind it", "\x00\x01", 0, nil},
		{"some", "\x01\x01\x00\xff\x01\x00\x00\xff", 256, []int{255, 256, 255}},
		{"the greatest", "\x07\xff\x07\xfe\x00\x00", 2046, []int{2046, 0}},
		{"122", bytes(8) + bytes(from(1, 122)...), 7, from(1, 122)},
	} {
		if next, l, e := chain.Take(c.s); next != c.next || !slices.Equal(l, c.pages) || e != api.OK {
			t.Errorf("Take of %s = %d, %v, %v", c.name, next, l, e)
		}
		if s, e := chain.Put(c.next, c.pages...); s != c.s || e != api.OK {
			t.Errorf("Put of %s = %x, %v", c.name, s, e)
		}
	}
	for _, c := range []struct{ name, s string }{
		{"nothing", ""},
		{"a byte", "\x00"},
		{"three bytes", "\x00\x00\x00"},
		{"five bytes", "\x00\x00\x00\x01\x00"},
		{"a next one beyond", "\x08\x00"},
		{"a next one far beyond", "\xff\xff\x00\x01"},
		{"a page beyond", "\x00\x00\x07\xff"},
		{"a page far beyond", "\x00\x00\x00\x00\xff\xff"},
		{"123", bytes(from(0, 124)...)},
		{"122 and a byte", bytes(from(0, 123)...) + "\x00"},
		{"very many", bytes(slices.Repeat([]int{1}, 5000)...)},
	} {
		if next, l, e := chain.Take(c.s); next != 0 || len(l) != 0 || e != api.ErrCorrupt {
			t.Errorf("Take of %s = %d, %v, %v", c.name, next, l, e)
		}
	}
}

// TestP12_1_All: of each two bytes Take tells as Put does.
func TestP12_1_All(t *testing.T) {
	for n := range 1 << 16 {
		next, l, e := chain.Take(bytes(n))
		if n < 2048 && (next != n-1 || len(l) != 0 || e != api.OK) || n > 2047 && e != api.ErrCorrupt {
			t.Fatalf("Take of the next one's %d = %d, %v, %v", n, next, l, e)
		}
		next, l, e = chain.Take(bytes(0, n))
		if n < 2047 && (next != -1 || !slices.Equal(l, []int{n}) || e != api.OK) || n > 2046 && e != api.ErrCorrupt {
			t.Fatalf("Take of a page's %d = %d, %v, %v", n, next, l, e)
		}
	}
}

func TestP12_1_Count(t *testing.T) {
	for pages, n := range map[int]int{
		0: 0, -1: 0, math.MinInt: 0, 1: 1, 121: 1, 122: 1, 123: 2, 244: 2, 245: 3, 2047: 17, math.MaxInt: math.MaxInt/122 + 1,
	} {
		if got := chain.Count(pages); got != n {
			t.Errorf("Count(%d) = %d, want %d", pages, got, n)
		}
	}
}

func TestP12_2_Lay(t *testing.T) {
	list := from(1000, 245)
	for _, c := range []struct {
		name       string
		own, pages []int
		want       []string
		e          api.Errno
	}{
		{"nothing", nil, nil, nil, api.OK},
		{"nothing, by lists that are empty", []int{}, []int{}, nil, api.OK},
		{"one", []int{3}, []int{5}, []string{bytes(0, 5)}, api.OK},
		{"122", []int{3}, list[:122], []string{bytes(0) + bytes(list[:122]...)}, api.OK},
		{"123", []int{3, 8}, list[:123], []string{bytes(9) + bytes(list[:122]...), bytes(0, 1122)}, api.OK},
		{"245", []int{3, 0, 2046}, list, []string{bytes(1) + bytes(list[:122]...), bytes(2047) + bytes(list[122:244]...), bytes(0, 1244)}, api.OK},
		{"in no order, and twice", []int{5}, []int{9, 0, 9, 5}, []string{bytes(0, 9, 0, 9, 5)}, api.OK},
		{"too few pieces", nil, []int{1}, nil, api.ErrArg},
		{"too few pieces of two", []int{1}, list[:123], nil, api.ErrArg},
		{"too many pieces", []int{1, 2}, list[:122], nil, api.ErrArg},
		{"a piece of nothing", []int{1}, nil, nil, api.ErrArg},
		{"a page beyond", []int{1}, []int{0, 2047}, nil, api.ErrArg},
		{"a page below 0, behind others", []int{1, 2}, append(from(0, 122), -1), nil, api.ErrArg},
		{"a piece beyond", []int{1, 2047}, list[:123], nil, api.ErrArg},
		{"a piece far beyond", []int{1, math.MaxInt}, list[:123], nil, api.ErrArg},
		{"the first piece, of which no other one tells", []int{9999}, []int{1}, []string{bytes(0, 1)}, api.OK},
	} {
		own, pages := slices.Clone(c.own), slices.Clone(c.pages)
		l, e := chain.Lay(own, pages)
		if !slices.Equal(l, c.want) || e != c.e {
			t.Errorf("Lay of %s = %x, %v, want %x, %v", c.name, l, e, c.want, c.e)
		}
		if !slices.Equal(own, c.own) || !slices.Equal(pages, c.pages) {
			t.Errorf("Lay of %s has changed what it was given", c.name)
		}
	}
}

// TestP12_2_LayLeavesTheRest: what stands behind the end of what is handed in is neither read nor changed.
func TestP12_2_LayLeavesTheRest(t *testing.T) {
	own, pages := from(1, 9), from(100, 500)
	l, e := chain.Lay(own[:2], pages[:200])
	if e != api.OK || len(l) != 2 || l[1] != bytes(0)+bytes(pages[122:200]...) {
		t.Errorf("Lay = %x, %v", l, e)
	}
	if !slices.Equal(own, from(1, 9)) || !slices.Equal(pages, from(100, 500)) {
		t.Error("Lay has changed what stands behind what it was given")
	}
}

// pieces are pieces by the pages in which they stand.
type pieces map[int]string

// asked is a call of what reads a piece.
type asked struct{ page, index int }

// reader tells of pieces, and notes how it was called; of a page that has none it tells an error.
func (p pieces) reader(calls *[]asked) func(page, index int) (string, api.Errno) {
	return func(page, index int) (string, api.Errno) {
		*calls = append(*calls, asked{page, index})
		s, is := p[page]
		if !is {
			return "spoilt", api.ErrDown
		}
		return s, api.OK
	}
}

// laid are the pieces of a list, by their pages.
func laid(t *testing.T, own, pages []int) pieces {
	t.Helper()
	l, e := chain.Lay(own, pages)
	if e != api.OK {
		t.Fatalf("Lay = %v", e)
	}
	p := pieces{}
	for i, s := range l {
		p[own[i]] = s
	}
	return p
}

func TestP12_2_Follow(t *testing.T) {
	for _, n := range []int{0, 1, 121, 122, 123, 244, 245, 2000} {
		own := from(20, chain.Count(n))
		slices.Reverse(own)
		list := from(40, n)
		first := 20
		if len(own) > 0 {
			first = own[0]
		}
		var calls, want []asked
		for i, at := range own {
			want = append(want, asked{at, i})
		}
		o, l, e := chain.Follow(first, n, laid(t, own, list).reader(&calls))
		if !slices.Equal(o, own) || !slices.Equal(l, list) || e != api.OK {
			t.Errorf("of %d pages: %v, %v, %v", n, o, l, e)
		}
		if !slices.Equal(calls, want) {
			t.Errorf("of %d pages: it was read %v, want %v", n, calls, want)
		}
	}
}

func TestP12_2_FollowOfNone(t *testing.T) {
	for _, n := range []int{0, -1, math.MinInt} {
		var calls []asked
		own, list, e := chain.Follow(3, n, pieces{}.reader(&calls))
		if len(own) != 0 || len(list) != 0 || e != api.OK || len(calls) != 0 {
			t.Errorf("of %d pages: %v, %v, %v; it was read %v", n, own, list, e, calls)
		}
	}
}

// TestP12_2_FollowErrors: each of what may be wrong with a list, and what is read till it is found.
func TestP12_2_FollowErrors(t *testing.T) {
	p := func(next int, l ...int) string { return bytes(next+1) + bytes(l...) }
	a, b, c := from(100, 122), from(300, 122), from(500, 5)
	for _, x := range []struct {
		name         string
		first, pages int
		p            pieces
		e            api.Errno
		calls        []asked
	}{
		{"nothing at the first page", 7, 1, pieces{}, api.ErrDown, []asked{{7, 0}}},
		{"nothing at the second page", 7, 200, pieces{7: p(8, a...)}, api.ErrDown, []asked{{7, 0}, {8, 1}}},
		{"no piece", 7, 1, pieces{7: "\x00"}, api.ErrCorrupt, []asked{{7, 0}}},
		{"no piece at the second page", 7, 127, pieces{7: p(8, a...), 8: ""}, api.ErrCorrupt, []asked{{7, 0}, {8, 1}}},
		{"an empty piece", 7, 1, pieces{7: p(-1)}, api.ErrCorrupt, []asked{{7, 0}}},
		{"too few pages", 7, 2, pieces{7: p(-1, 100)}, api.ErrCorrupt, []asked{{7, 0}}},
		{"too many pages", 7, 1, pieces{7: p(-1, 100, 101)}, api.ErrCorrupt, []asked{{7, 0}}},
		{"too few pages of the first piece", 7, 126, pieces{7: p(8, a[:121]...), 8: p(-1, c...)}, api.ErrCorrupt, []asked{{7, 0}}},
		{"too few pages of the last piece", 7, 127, pieces{7: p(8, a...), 8: p(-1, c[:4]...)}, api.ErrCorrupt, []asked{{7, 0}, {8, 1}}},
		{"too many pages of the last piece", 7, 126, pieces{7: p(8, a...), 8: p(-1, c...)}, api.ErrCorrupt, []asked{{7, 0}, {8, 1}}},
		{"a piece behind the last one", 7, 127, pieces{7: p(8, a...), 8: p(9, c...), 9: p(-1)}, api.ErrCorrupt, []asked{{7, 0}, {8, 1}}},
		{"a piece behind the only one", 7, 122, pieces{7: p(8, a...), 8: p(-1)}, api.ErrCorrupt, []asked{{7, 0}}},
		{"no piece behind the first one", 7, 123, pieces{7: p(-1, a...)}, api.ErrCorrupt, []asked{{7, 0}}},
		{"the first one behind itself", 7, 244, pieces{7: p(7, a...)}, api.ErrCorrupt, []asked{{7, 0}, {7, 1}}},
		{"the first one behind the second one", 7, 366, pieces{7: p(8, a...), 8: p(7, b...)}, api.ErrCorrupt, []asked{{7, 0}, {8, 1}, {7, 2}}},
		{"its own page among its pages", 7, 2, pieces{7: p(-1, 3, 7)}, api.ErrCorrupt, []asked{{7, 0}}},
		{"a page twice in a piece", 7, 3, pieces{7: p(-1, 3, 4, 3)}, api.ErrCorrupt, []asked{{7, 0}}},
		{"a page of the first piece in the second one", 7, 123, pieces{7: p(8, a...), 8: p(-1, 221)}, api.ErrCorrupt, []asked{{7, 0}, {8, 1}}},
		{"the first piece's page in the second one", 7, 123, pieces{7: p(8, a...), 8: p(-1, 7)}, api.ErrCorrupt, []asked{{7, 0}, {8, 1}}},
		{"the second piece in a page of the first one", 7, 123, pieces{7: p(150, a...), 150: p(-1, 1)}, api.ErrCorrupt, []asked{{7, 0}, {150, 1}}},
		{"more pages than there may be", 7, math.MaxInt, pieces{7: p(8, a...), 8: p(9, b...), 9: p(10, from(1, 122)...)}, api.ErrCorrupt, []asked{{7, 0}, {8, 1}, {9, 2}}},
	} {
		var calls []asked
		own, list, e := chain.Follow(x.first, x.pages, x.p.reader(&calls))
		if len(own) != 0 || len(list) != 0 || e != x.e {
			t.Errorf("%s: %v, %v, %v, want %v", x.name, own, list, e, x.e)
		}
		if !slices.Equal(calls, x.calls) {
			t.Errorf("%s: it was read %v, want %v", x.name, calls, x.calls)
		}
	}
}

// TestP12_2_FollowNeighbours: what a list of one page less, or more, is told of has an error.
func TestP12_2_FollowNeighbours(t *testing.T) {
	for _, n := range []int{1, 122, 123, 244, 300} {
		own := from(1000, chain.Count(n))
		p := laid(t, own, from(1, n))
		for pages := n - 2; pages <= n+2; pages++ {
			var calls []asked
			_, list, e := chain.Follow(own[0], pages, p.reader(&calls))
			if fits := pages == n || pages <= 0; (e == api.OK) != fits || len(list) != 0 && pages != n {
				t.Errorf("a list of %d, as one of %d: %v, %v", n, pages, list, e)
			}
		}
	}
}

// TestP12_2_FollowFirst: the first page is whatever is said; what reads it tells whether there is one.
func TestP12_2_FollowFirst(t *testing.T) {
	for _, first := range []int{math.MinInt, -1, 2047, math.MaxInt} {
		var calls []asked
		own, list, e := chain.Follow(first, 2, pieces{first: bytes(0, 1, 2)}.reader(&calls))
		if !slices.Equal(own, []int{first}) || !slices.Equal(list, []int{1, 2}) || e != api.OK {
			t.Errorf("from %d on: %v, %v, %v", first, own, list, e)
		}
	}
}

// TestP12_2_New: no list of an answer shares memory with another one, spare room too.
func TestP12_2_New(t *testing.T) {
	var calls []asked
	p := laid(t, []int{1, 2}, from(100, 150))
	a, b, _ := chain.Follow(1, 150, p.reader(&calls))
	x, y, _ := chain.Follow(1, 150, p.reader(&calls))
	_, l, _ := chain.Take(p[1])
	_, m, _ := chain.Take(p[1])
	for _, s := range [][]int{a, b, l} {
		s = s[:cap(s)]
		for i := range s {
			s[i] = -7
		}
	}
	if !slices.Equal(x, []int{1, 2}) || !slices.Equal(y, from(100, 150)) || !slices.Equal(m, from(100, 122)) {
		t.Errorf("behind changes of other answers: %v, %v, %v", x, y, m)
	}
	_ = append(x, -1)
	if !slices.Equal(y, from(100, 150)) {
		t.Error("a list of an answer has another one behind its end")
	}
}

// TestP12_3_LeadsBack: Follow leads back from Lay.
func TestP12_3_LeadsBack(t *testing.T) {
	r := rand.New(rand.NewSource(123))
	for range 300 {
		n := r.Intn(500)
		if r.Intn(10) == 0 {
			n = 2030 - r.Intn(5)
		}
		all := r.Perm(api.MaxPages)
		own, list := all[:chain.Count(n)], all[len(all)-n:]
		first := 0
		if n > 0 {
			first = own[0]
		}
		var calls []asked
		o, l, e := chain.Follow(first, n, laid(t, own, list).reader(&calls))
		if !slices.Equal(o, own) || !slices.Equal(l, list) || e != api.OK {
			t.Fatalf("of %d pages: %v, %v, %v", n, o, l, e)
		}
	}
}

// TestP12_3_Ends: whatever is read, Follow ends, and what it tells is a list that was read.
func TestP12_3_Ends(t *testing.T) {
	r := rand.New(rand.NewSource(124))
	for range 4000 {
		reads := 0
		read := func(page, index int) (string, api.Errno) {
			reads++
			l := make([]int, api.PerMap)
			for i := range l {
				l[i] = (index*api.PerMap + i*7919) % api.MaxPages // mostly others than ahead
				if r.Intn(400) == 0 {
					l[i] = r.Intn(2060)
				}
			}
			return bytes(r.Intn(2048)) + bytes(l...), api.OK
		}
		pages := []int{math.MaxInt, 122, 244, 1000, 1 << 40}[r.Intn(5)]
		own, list, e := chain.Follow(r.Intn(2047), pages, read)
		if reads > 18 {
			t.Fatalf("%d pieces were read", reads)
		}
		if e == api.OK && (len(list) != pages || len(own) != chain.Count(pages)) || e != api.OK && e != api.ErrCorrupt {
			t.Fatalf("of %d pages: %v, %v, %v", pages, own, list, e)
		}
	}
	same := func(page, index int) (string, api.Errno) { return bytes(3) + bytes(from(100, 122)...), api.OK }
	if _, _, e := chain.Follow(2, math.MaxInt, same); e != api.ErrCorrupt {
		t.Errorf("the same piece, ever again: %v", e)
	}
	for _, s := range []string{"", "\x00", "\x00\x00", "\xff\xff", bytes(2)} {
		if _, _, e := chain.Follow(2, math.MaxInt, func(int, int) (string, api.Errno) { return s, api.OK }); e != api.ErrCorrupt {
			t.Errorf("%x, ever again: %v", s, e)
		}
	}
}

// TestP12_3_Bytes: a bit of a piece that is turned leads to another list, or to an error, and to an end.
func TestP12_3_Bytes(t *testing.T) {
	own, list := []int{7, 9}, from(100, 130)
	for at, piece := range laid(t, own, list) {
		for i := range len(piece) {
			for bit := range 8 {
				p := laid(t, own, list)
				b := []byte(piece)
				b[i] ^= 1 << bit
				p[at] = string(b)
				var calls []asked
				o, l, e := chain.Follow(7, 130, p.reader(&calls))
				if e == api.OK && slices.Equal(o, own) && slices.Equal(l, list) {
					t.Errorf("byte %d, bit %d of the piece in %d: nothing is told of it", i, bit, at)
				}
				if e == api.OK && len(l) != 130 {
					t.Errorf("byte %d, bit %d of the piece in %d: %d pages", i, bit, at, len(l))
				}
			}
		}
	}
}
