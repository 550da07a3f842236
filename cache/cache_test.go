package cache_test

import (
	"math"
	"math/rand"
	"slices"
	"strconv"
	"testing"

	"pithead/api"
	"pithead/cache"
)

func fresh(t *testing.T, size int) *cache.Cache {
	t.Helper()
	c, e := cache.New(size)
	if e != api.OK || c == nil {
		t.Fatalf("New(%d) = %v, %v", size, c, e)
	}
	return c
}

func wantPlaces(t *testing.T, what string, c *cache.Cache, l ...int) {
	t.Helper()
	if got := c.Places(); !slices.Equal(got, l) {
		t.Errorf("%s: the places are %v, want %v", what, got, l)
	}
}

func wantGet(t *testing.T, c *cache.Cache, i int, want string, there bool) {
	t.Helper()
	if s, is := c.Get(i); s != want || is != there {
		t.Errorf("Get(%d) = %q, %v, want %q, %v", i, s, is, want, there)
	}
}

func wantCounts(t *testing.T, c *cache.Cache, hits, misses int) {
	t.Helper()
	if h, m := c.Counts(); h != hits || m != misses {
		t.Errorf("Counts = %d, %d, want %d, %d", h, m, hits, misses)
	}
}

// down are the numbers from one down to another.
func down(from, to int) []int {
	var l []int
	for i := from; i >= to; i-- {
		l = append(l, i)
	}
	return l
}

func TestP11_1_New(t *testing.T) {
	for _, size := range []int{1, 2, 8, 63, 64} {
		c := fresh(t, size)
		wantPlaces(t, "New", c)
		wantCounts(t, c, 0, 0)
		wantGet(t, c, 0, "", false)
		for i := range size {
			c.Put(i, "a")
		}
		wantPlaces(t, "full", c, down(size-1, 0)...)
		c.Put(size, "a")
		wantPlaces(t, "one too many", c, down(size, 1)...)
	}
	for _, size := range []int{0, -1, 65, 66, math.MinInt, math.MaxInt} {
		if c, e := cache.New(size); c != nil || e != api.ErrArg {
			t.Errorf("New(%d) = %v, %v", size, c, e)
		}
	}
}

func TestP11_1_Get(t *testing.T) {
	c := fresh(t, 5)
	for _, i := range []int{math.MinInt, -1, 0, math.MaxInt} {
		wantGet(t, c, i, "", false)
		c.Put(i, strconv.Itoa(i))
		wantGet(t, c, i, strconv.Itoa(i), true)
	}
	c.Put(7, "")
	wantPlaces(t, "behind Put", c, 7, math.MaxInt, 0, -1, math.MinInt)
	wantGet(t, c, 0, "0", true)
	wantPlaces(t, "behind Get of one in the middle", c, 0, 7, math.MaxInt, -1, math.MinInt)
	wantGet(t, c, 0, "0", true)
	wantPlaces(t, "behind Get of the first one", c, 0, 7, math.MaxInt, -1, math.MinInt)
	wantGet(t, c, math.MinInt, strconv.Itoa(math.MinInt), true)
	wantPlaces(t, "behind Get of the last one", c, math.MinInt, 0, 7, math.MaxInt, -1)
	wantGet(t, c, 7, "", true)
	wantGet(t, c, 1, "", false)
	wantPlaces(t, "behind Get of one that is not there", c, 7, math.MinInt, 0, math.MaxInt, -1)
}

func TestP11_1_Put(t *testing.T) {
	c := fresh(t, 3)
	c.Put(1, "a")
	c.Put(2, "b")
	c.Put(3, "c")
	wantPlaces(t, "three", c, 3, 2, 1)
	c.Put(1, "d")
	wantPlaces(t, "another text of the last one", c, 1, 3, 2)
	c.Put(1, "e")
	wantPlaces(t, "another text of the first one", c, 1, 3, 2)
	c.Put(4, "f")
	wantPlaces(t, "one too many", c, 4, 1, 3)
	wantGet(t, c, 2, "", false)
	wantGet(t, c, 1, "e", true)
	c.Put(2, "g")
	wantPlaces(t, "one that went comes again", c, 2, 1, 4)
	wantGet(t, c, 2, "g", true)
	wantGet(t, c, 4, "f", true)
	wantGet(t, c, 3, "", false)
	one := fresh(t, 1)
	one.Put(1, "a")
	one.Put(2, "b")
	wantPlaces(t, "of size 1", one, 2)
	wantGet(t, one, 1, "", false)
	wantGet(t, one, 2, "b", true)
}

func TestP11_1_Clear(t *testing.T) {
	c := fresh(t, 3)
	c.Clear()
	wantPlaces(t, "Clear of an empty one", c)
	c.Put(1, "a")
	c.Put(2, "b")
	c.Get(1)
	c.Get(9)
	c.Get(8)
	c.Clear()
	wantPlaces(t, "Clear", c)
	wantCounts(t, c, 1, 2)
	wantGet(t, c, 1, "", false)
	wantCounts(t, c, 1, 3)
	for i := range 4 {
		c.Put(i, "c")
	}
	wantPlaces(t, "filled again", c, 3, 2, 1)
}

// TestP11_1_Places: the order that is told is new memory.
func TestP11_1_Places(t *testing.T) {
	c := fresh(t, 4)
	for i := range 3 {
		c.Put(i, "a")
	}
	l := c.Places()
	l = l[:cap(l)]
	for i := range l {
		l[i] = 77
	}
	wantPlaces(t, "behind a change of what was told", c, 2, 1, 0)
	c.Put(5, "a")
	c.Put(6, "a")
	wantPlaces(t, "and Put", c, 6, 5, 2, 1)
}

func TestP11_1_Counts(t *testing.T) {
	c := fresh(t, 2)
	c.Put(1, "a")
	c.Put(1, "b")
	wantCounts(t, c, 0, 0)
	c.Get(1)
	c.Get(2)
	c.Get(1)
	wantCounts(t, c, 2, 1)
	c.Places()
	wantCounts(t, c, 2, 1)
}

func TestP11_1_NoCache(t *testing.T) {
	made := fresh(t, 2)
	made.Put(1, "a")
	copied := *made
	for name, c := range map[string]*cache.Cache{"nil": nil, "a plain one": {}, "a copy": &copied} {
		c.Put(1, "b")
		c.Put(2, "c")
		c.Clear()
		wantGet(t, c, 1, "", false)
		wantPlaces(t, name, c)
		wantCounts(t, c, 0, 0)
		asked := 0
		read := func(i int) (string, api.Errno) {
			asked++
			return "r" + strconv.Itoa(i), api.OK
		}
		for range 2 {
			if s, e := c.Through(-4, read); s != "r-4" || e != api.OK {
				t.Errorf("%s: Through = %q, %v", name, s, e)
			}
		}
		if asked != 2 {
			t.Errorf("%s: %d were read, want 2", name, asked)
		}
		if s, e := c.Through(1, func(int) (string, api.Errno) { return "", api.ErrRange }); s != "" || e != api.ErrRange {
			t.Errorf("%s: Through of an error = %q, %v", name, s, e)
		}
	}
	wantPlaces(t, "behind a copy's calls", made, 1)
	wantGet(t, made, 1, "a", true)
	wantCounts(t, made, 1, 0)
}

func TestP11_1_Apart(t *testing.T) {
	a, b := fresh(t, 2), fresh(t, 2)
	a.Put(1, "a")
	a.Get(1)
	wantPlaces(t, "a cache beside one that has a text", b)
	wantCounts(t, b, 0, 0)
}

func TestP11_2_Through(t *testing.T) {
	var asked []int
	read := func(i int) (string, api.Errno) {
		asked = append(asked, i)
		if i < 0 {
			return "spoilt", api.ErrCorrupt
		}
		return "r" + strconv.Itoa(i), api.OK
	}
	c := fresh(t, 2)
	c.Put(1, "a")
	c.Put(2, "b")
	for _, x := range []struct {
		what         string
		i            int
		s            string
		e            api.Errno
		asked        []int
		places       []int
		hits, misses int
	}{
		{"what is there", 1, "a", api.OK, nil, []int{1, 2}, 1, 0},
		{"what is not there", 5, "r5", api.OK, []int{5}, []int{5, 1}, 1, 1},
		{"what is there now", 5, "r5", api.OK, nil, []int{5, 1}, 2, 1},
		{"an error", -1, "", api.ErrCorrupt, []int{-1}, []int{5, 1}, 2, 2},
		{"an error again", -1, "", api.ErrCorrupt, []int{-1}, []int{5, 1}, 2, 3},
		{"what went", 2, "r2", api.OK, []int{2}, []int{2, 5}, 2, 4},
	} {
		asked = nil
		if s, e := c.Through(x.i, read); s != x.s || e != x.e {
			t.Errorf("Through of %s = %q, %v, want %q, %v", x.what, s, e, x.s, x.e)
		}
		if !slices.Equal(asked, x.asked) {
			t.Errorf("Through of %s has read %v, want %v", x.what, asked, x.asked)
		}
		wantPlaces(t, x.what, c, x.places...)
		wantCounts(t, c, x.hits, x.misses)
	}
	wantGet(t, c, -1, "", false)
}

// TestP11_2_Within: what is read may itself work with the cache.
func TestP11_2_Within(t *testing.T) {
	c := fresh(t, 2)
	s, e := c.Through(3, func(i int) (string, api.Errno) {
		c.Put(3, "of the reading")
		c.Put(4, "a")
		c.Put(5, "b")
		c.Clear()
		c.Put(6, "c")
		return "read", api.OK
	})
	if s != "read" || e != api.OK {
		t.Errorf("Through = %q, %v", s, e)
	}
	wantPlaces(t, "behind it", c, 3, 6)
	wantGet(t, c, 3, "read", true)
}

// held is a place and its text.
type held struct {
	i int
	s string
}

// plain is a cache as the document tells it, told once more: a list, the first one first.
type plain struct {
	size         int
	l            []held
	hits, misses int
}

func (p *plain) put(i int, s string) {
	p.l = slices.DeleteFunc(p.l, func(h held) bool { return h.i == i })
	p.l = slices.Insert(p.l, 0, held{i, s})
	p.l = p.l[:min(len(p.l), p.size)]
}

func (p *plain) get(i int) (string, bool) {
	for _, h := range p.l {
		if h.i == i {
			p.hits++
			p.put(i, h.s)
			return h.s, true
		}
	}
	p.misses++
	return "", false
}

// TestP11_1_AsPlain: whatever is called, the cache is as the document tells.
func TestP11_1_AsPlain(t *testing.T) {
	r := rand.New(rand.NewSource(111))
	for _, size := range []int{1, 2, 3, 8, 64} {
		c, p := fresh(t, size), &plain{size: size}
		for n := range 3000 {
			i := r.Intn(2*size+3) - 2
			switch r.Intn(8) {
			case 0, 1, 2:
				c.Put(i, strconv.Itoa(n))
				p.put(i, strconv.Itoa(n))
			case 3:
				if r.Intn(20) == 0 {
					c.Clear()
					p.l = nil
				}
			case 4:
				want, is := p.get(i)
				e := api.Errno(r.Intn(2))
				if !is && e == api.OK {
					want = "r"
					p.put(i, want)
				}
				if is {
					e = api.OK
				}
				if s, got := c.Through(i, func(int) (string, api.Errno) { return "r", e }); s != want || got != e {
					t.Fatalf("Through(%d) = %q, %v, want %q, %v", i, s, got, want, e)
				}
			default:
				s, is := p.get(i)
				wantGet(t, c, i, s, is)
			}
			var l []int
			for _, h := range p.l {
				l = append(l, h.i)
			}
			wantPlaces(t, "size "+strconv.Itoa(size), c, l...)
			wantCounts(t, c, p.hits, p.misses)
			if t.Failed() {
				t.FailNow()
			}
		}
	}
}

// TestP11_3: as long as read answers the same, so does Through, whatever the cache has of it.
func TestP11_3(t *testing.T) {
	r := rand.New(rand.NewSource(113))
	read := func(i int) (string, api.Errno) {
		if i%5 == 0 {
			return "", api.Errno(2 + i%3)
		}
		return strconv.Itoa(i * i), api.OK
	}
	for _, size := range []int{1, 3, 8, 64} {
		c := fresh(t, size)
		for range 2000 {
			i := r.Intn(100)
			s, e := c.Through(i, read)
			if want, err := read(i); s != want || e != err {
				t.Fatalf("Through(%d) = %q, %v, want %q, %v", i, s, e, want, err)
			}
			switch r.Intn(50) {
			case 0:
				c.Clear()
			case 1:
				c.Get(r.Intn(100))
			}
		}
	}
}
