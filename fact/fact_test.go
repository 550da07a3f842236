package fact_test

import (
	"math"
	"math/rand"
	"slices"
	"testing"

	"pithead/agg"
	"pithead/api"
	"pithead/fact"
)

const most, least = math.MaxInt64, math.MinInt64

// one is the fact of a row of one measure.
func one(v int64, keys ...int) api.Fact {
	a, _ := agg.Of(v)
	return api.Fact{Keys: keys, Agg: a}
}

// at is a tuple with no aggregate.
func at(keys ...int) api.Fact { return api.Fact{Keys: keys} }

// with is a fact whose aggregate is made by hand.
func with(count int64, p api.Part, keys ...int) api.Fact {
	return api.Fact{Keys: keys, Agg: api.Agg{Count: count, M: [api.MaxMeasures]api.Part{p}}}
}

// shape is one of two dimensions, the first one of two tiers, and one measure.
func shape() api.Shape { return api.Shape{Sizes: [][]int{{3, 2}, {2}}, Measures: 1} }

// equal says by a loop of its own what Same is to say.
func equal(a, b []api.Fact) bool {
	if len(a) != len(b) {
		return false
	}
	for i := range a {
		if !slices.Equal(a[i].Keys, b[i].Keys) || a[i].Agg != b[i].Agg {
			return false
		}
	}
	return true
}

// roomy is the same facts, with room behind each list's end that holds 55.
func roomy(l []api.Fact) []api.Fact {
	var c []api.Fact
	for _, f := range l {
		keys := append(append([]int(nil), f.Keys...), 55, 55)
		c = append(c, api.Fact{Keys: keys[:len(f.Keys)], Agg: f.Agg})
	}
	return append(c, at(55), at(55))[:len(l)]
}

// spoil changes all of some facts, the room behind the lists' ends included.
func spoil(l []api.Fact) {
	l = l[:cap(l)]
	for i, f := range l {
		for k := range f.Keys[:cap(f.Keys)] {
			f.Keys[:cap(f.Keys)][k] = 77
		}
		l[i] = at(77)
	}
}

// untouched tells whether roomy facts are as they were, the room behind their ends included.
func untouched(l, as []api.Fact) bool {
	for _, f := range l {
		if room := f.Keys[len(f.Keys):cap(f.Keys)]; room[0] != 55 || room[1] != 55 {
			return false
		}
	}
	full := l[:len(l)+2]
	return equal(l, as) && slices.Equal(full[len(l)].Keys, []int{55}) && slices.Equal(full[len(l)+1].Keys, []int{55})
}

func TestP19_1_Compare(t *testing.T) {
	for _, c := range []struct {
		a, b api.Fact
		want int
	}{
		{at(1, 2), at(1, 3), -1},
		{at(1, 2), at(1, 2, 0), -1},
		{at(1, 2), at(1, 2, -1), -1},
		{at(1, 2), at(1, 2), 0},
		{at(2), at(1, 9), 1},
		{at(0, 9), at(1, 0), -1},
		{at(0, 1, 5), at(0, 2), -1},
		{at(), at(), 0},
		{at(), at(0), -1},
		{at(), at(least), -1},
		{at(), api.Fact{Keys: []int{}}, 0},
		{at(least), at(most), -1},
		{at(-1), at(0), -1},
		{at(9), at(10), -1},
		{one(5, 1), one(0, 1), 0},
		{with(9, api.Part{}, 1), with(-9, api.Part{}, 1), 0},
		{one(0, 1, 1), one(9, 1, 0), 1},
	} {
		if n := fact.Compare(c.a, c.b); n != c.want {
			t.Errorf("Compare(%v, %v) = %d, want %d", c.a.Keys, c.b.Keys, n, c.want)
		}
		if n := fact.Compare(c.b, c.a); n != -c.want {
			t.Errorf("Compare(%v, %v) = %d, want %d", c.b.Keys, c.a.Keys, n, -c.want)
		}
	}
}

// TestP19_1_CompareEnd: what stands behind a list's end is not looked at.
func TestP19_1_CompareEnd(t *testing.T) {
	a, b := []int{1, 2, 3}, []int{1, 2, 4}
	if n := fact.Compare(at(a[:2]...), at(b[:2]...)); n != 0 {
		t.Errorf("Compare = %d", n)
	}
	if n := fact.Compare(at(a[:2]...), at(a...)); n != -1 {
		t.Errorf("Compare = %d", n)
	}
}

func TestP19_1_Check(t *testing.T) {
	x := shape()
	two := api.Part{Sum: 3, Min: 1, Max: 2}
	further := one(1, 0, 0)
	further.Agg.M[1].Max = 1
	for _, c := range []struct {
		name string
		x    api.Shape
		f    api.Fact
		e    api.Errno
	}{
		{"the first places", x, one(1, 0, 0), api.OK},
		{"the last places", x, one(-1, 2, 1), api.OK},
		{"of two rows", x, with(2, two, 1, 1), api.OK},
		{"no measures", api.Shape{Sizes: [][]int{{1}}}, with(4, api.Part{}, 0), api.OK},
		{"no dimensions", api.Shape{Measures: 1}, one(1), api.OK},
		{"no dimensions, an empty list", api.Shape{Sizes: [][]int{}, Measures: 1}, api.Fact{Keys: []int{}, Agg: one(1).Agg}, api.OK},
		{"a huge tier", api.Shape{Sizes: [][]int{{most}}, Measures: 1}, one(1, most-1), api.OK},

		{"nothing", x, api.Fact{}, api.ErrArg},
		{"too few places", x, one(1, 0), api.ErrArg},
		{"too many places", x, one(1, 0, 0, 0), api.ErrArg},
		{"too many places, and no members", x, one(1, 9, 9, 9), api.ErrArg},
		{"a place without dimensions", api.Shape{Measures: 1}, one(1, 0), api.ErrArg},
		{"a place below 0", x, one(1, -1, 0), api.ErrMember},
		{"a place far below 0", x, one(1, 0, least), api.ErrMember},
		{"a place one beyond", x, one(1, 3, 0), api.ErrMember},
		{"a place one beyond, in the last", x, one(1, 0, 2), api.ErrMember},
		{"a place far beyond", x, one(1, 0, most), api.ErrMember},
		{"a place within the coarser tier alone", api.Shape{Sizes: [][]int{{1, 3}}, Measures: 1}, one(1, 1), api.ErrMember},
		{"an empty tier", api.Shape{Sizes: [][]int{{0}}, Measures: 1}, one(1, 0), api.ErrMember},
		{"a tier of less than none", api.Shape{Sizes: [][]int{{-3}}, Measures: 1}, one(1, -4), api.ErrMember},
		{"no tiers", api.Shape{Sizes: [][]int{{}}, Measures: 1}, one(1, 0), api.ErrMember},
		{"no tiers, nil", api.Shape{Sizes: [][]int{nil}, Measures: 1}, one(1, -1), api.ErrMember},
		{"no member, and no aggregate", x, at(0, 2), api.ErrMember},
		{"no rows", x, at(0, 0), api.ErrArg},
		{"less than no rows", x, with(-1, two, 0, 0), api.ErrArg},
		{"one row, and two values", x, with(1, two, 0, 0), api.ErrArg},
		{"the least above the greatest", x, with(2, api.Part{Sum: 3, Min: 2, Max: 1}, 0, 0), api.ErrArg},
		{"a further measure", x, further, api.ErrArg},
		{"a value without measures", api.Shape{Sizes: [][]int{{1}}}, one(1, 0), api.ErrArg},
		{"four measures", api.Shape{Sizes: [][]int{{1}}, Measures: 4}, one(1, 0), api.ErrArg},
		{"less than no measures", api.Shape{Sizes: [][]int{{1}}, Measures: -1}, one(0, 0), api.ErrArg},
	} {
		if e := fact.Check(c.x, c.f); e != c.e {
			t.Errorf("%s: Check = %v, want %v", c.name, e, c.e)
		}
		if e := fact.Row(c.x, c.f); e != c.e {
			t.Errorf("%s: Row = %v, want %v", c.name, e, c.e)
		}
	}
}

func TestP19_1_Row(t *testing.T) {
	for _, c := range []struct {
		name string
		l    []api.Fact
		e    api.Errno
	}{
		{"none", nil, api.OK},
		{"one", []api.Fact{one(1, 2, 1)}, api.OK},
		{"rising", []api.Fact{one(9, 0, 0), one(1, 0, 1), one(5, 1, 0), one(5, 2, 1)}, api.OK},
		{"a tuple twice", []api.Fact{one(1, 0, 1), one(2, 0, 1)}, api.ErrOrder},
		{"a fact twice", []api.Fact{one(1, 0, 0), one(1, 0, 1), one(1, 0, 1)}, api.ErrOrder},
		{"falling", []api.Fact{one(1, 1, 0), one(1, 0, 1)}, api.ErrOrder},
		{"falling at the end", []api.Fact{one(1, 0, 0), one(1, 1, 0), one(1, 0, 1)}, api.ErrOrder},
		{"no member behind", []api.Fact{one(1, 0, 0), one(1, 3, 0)}, api.ErrMember},
		{"no member, and falling", []api.Fact{one(1, 1, 0), one(1, 0, 2)}, api.ErrMember},
		{"falling, and no member behind that", []api.Fact{one(1, 1, 0), one(1, 0, 0), one(1, 9, 0)}, api.ErrOrder},
		{"no member, and falling behind that", []api.Fact{one(1, 1, 2), one(1, 0, 0)}, api.ErrMember},
		{"too few places, and falling", []api.Fact{one(1, 1, 0), one(1, 0)}, api.ErrArg},
		{"no aggregate at the end", []api.Fact{one(1, 0, 0), at(1, 0)}, api.ErrArg},
	} {
		if e := fact.Row(shape(), c.l...); e != c.e {
			t.Errorf("%s: Row = %v, want %v", c.name, e, c.e)
		}
	}
	if e := fact.Row(api.Shape{Measures: 1}, one(1), one(1)); e != api.ErrOrder {
		t.Errorf("Row of the empty tuple, twice = %v", e)
	}
}

// TestP19_2_Once: a row in which some tuple stands twice, wherever, is none.
func TestP19_2_Once(t *testing.T) {
	r := rand.New(rand.NewSource(19))
	rows := 0
	for range 5000 {
		var l []api.Fact
		for range r.Intn(4) {
			l = append(l, one(int64(r.Intn(5)), r.Intn(3), r.Intn(2)))
		}
		came := map[[2]int]int{}
		rises := true
		for i, f := range l {
			came[[2]int{f.Keys[0], f.Keys[1]}]++
			rises = rises && (i == 0 || l[i-1].Keys[0]*2+l[i-1].Keys[1] < f.Keys[0]*2+f.Keys[1])
		}
		e := fact.Row(shape(), l...)
		if e == api.OK && len(came) != len(l) {
			t.Fatalf("Row(%v) lets a tuple be twice", l)
		}
		if (e == api.OK) != rises || (e == api.ErrOrder) == rises {
			t.Fatalf("Row(%v) = %v", l, e)
		}
		if e == api.OK && len(l) > 1 {
			rows++
		}
	}
	if rows < 100 {
		t.Errorf("only %d rows were rows", rows)
	}
}

func some() []api.Fact {
	return []api.Fact{one(3), one(4, 0), one(5, 0, 1), with(2, api.Part{Sum: 7, Min: 3, Max: 4}, 0, 2), one(-5, 1, 1), one(6, 3, 0, 0)}
}

func TestP19_1_Clone(t *testing.T) {
	for n := range len(some()) + 1 {
		if l := fact.Clone(some()[:n]); !equal(l, some()[:n]) {
			t.Errorf("Clone = %v", l)
		}
	}
	for _, l := range [][]api.Fact{nil, {}} {
		if c := fact.Clone(l); len(c) != 0 {
			t.Errorf("Clone of none = %v", c)
		}
	}
}

// TestP19_1_CloneIsNew: a clone shares nothing with what it is of, nor with another one.
func TestP19_1_CloneIsNew(t *testing.T) {
	l := roomy(some())
	a, b := fact.Clone(l), fact.Clone(l)
	spoil(a)
	if !untouched(l, some()) || !equal(b, some()) {
		t.Error("a clone shares something")
	}
	spoil(l)
	if !equal(b, some()) {
		t.Error("a clone hangs on what it is of")
	}
	for i, f := range b {
		for k := range f.Keys[:cap(f.Keys)] {
			f.Keys[:cap(f.Keys)][k] = 77
		}
		b[i] = at()
		if !equal(b[i+1:], some()[i+1:]) {
			t.Error("two facts of a clone share something")
		}
	}
}

func TestP19_1_Find(t *testing.T) {
	for n := range len(some()) + 1 {
		l := some()[:n]
		for _, f := range l {
			if got, is := fact.Find(l, f.Keys); !is || !equal([]api.Fact{got}, []api.Fact{f}) {
				t.Errorf("Find(%v) of %d = %v, %v", f.Keys, n, got, is)
			}
		}
		for _, keys := range [][]int{{-1}, {0, 0}, {0, 1, 0}, {0, 3}, {1}, {2}, {3, 0}, {3, 0, 0, 0}, {9}, {least}, {most}} {
			if got, is := fact.Find(l, keys); is || got.Keys != nil || got.Agg != (api.Agg{}) {
				t.Errorf("Find(%v) of %d = %v, %v", keys, n, got, is)
			}
		}
	}
	for _, keys := range [][]int{nil, {}} {
		if got, is := fact.Find(some(), keys); !is || len(got.Keys) != 0 || got.Agg != one(3).Agg {
			t.Errorf("Find of no places = %v, %v", got, is)
		}
		if got, is := fact.Find(some()[1:], keys); is || got.Agg != (api.Agg{}) {
			t.Errorf("Find of no places, which are not there = %v, %v", got, is)
		}
	}
}

// TestP19_1_FindOfMany finds each of many, and none between them.
func TestP19_1_FindOfMany(t *testing.T) {
	var l []api.Fact
	for i := range 300 {
		l = append(l, one(int64(i), i/20*2, i%20*2))
	}
	for a := -1; a < 32; a++ {
		for b := -1; b < 41; b++ {
			f, is := fact.Find(l, []int{a, b})
			want := a >= 0 && a < 30 && b >= 0 && b < 40 && a%2 == 0 && b%2 == 0
			if is != want || is && f.Agg.M[0].Sum != int64(a/2*20+b/2) {
				t.Errorf("Find(%d, %d) = %v, %v", a, b, f, is)
			}
		}
	}
}

func TestP19_1_FindIsNew(t *testing.T) {
	l := roomy(some())
	keys := []int{0, 1, 55}
	a, _ := fact.Find(l, keys[:2])
	b, _ := fact.Find(l, keys[:2])
	spoil([]api.Fact{a})
	if !untouched(l, some()) || !slices.Equal(b.Keys, []int{0, 1}) || !slices.Equal(keys, []int{0, 1, 55}) {
		t.Error("what Find answers shares something")
	}
	spoil(l)
	if !slices.Equal(b.Keys, []int{0, 1}) {
		t.Error("what Find answers hangs on its row")
	}
}

func TestP19_1_All(t *testing.T) {
	three := one(1, 5)
	three.Agg.M = [3]api.Part{{Sum: 1, Min: 1, Max: 1}, {Sum: 2, Min: 2, Max: 2}, {Sum: 3, Min: 3, Max: 3}}
	for _, c := range []struct {
		name string
		l    []api.Fact
		want api.Agg
		fits bool
	}{
		{"none", nil, api.Agg{}, true},
		{"one", []api.Fact{one(5, 1)}, one(5).Agg, true},
		{"two", []api.Fact{one(1, 0), one(2, 7)}, with(2, api.Part{Sum: 3, Min: 1, Max: 2}).Agg, true},
		{"whatever their tuples", []api.Fact{one(2, 9, 9), one(-1), one(2, 9, 9)}, with(3, api.Part{Sum: 3, Min: -1, Max: 2}).Agg, true},
		{"of several rows", []api.Fact{with(3, api.Part{Sum: 6, Min: 1, Max: 3}), one(9)}, with(4, api.Part{Sum: 15, Min: 1, Max: 9}).Agg, true},
		{"of no rows, in front", []api.Fact{with(0, api.Part{Sum: 9}), one(1)}, one(1).Agg, true},
		{"of no rows, behind", []api.Fact{one(1), with(0, api.Part{Sum: 9})}, one(1).Agg, true},
		{"of no rows, alone", []api.Fact{with(0, api.Part{Sum: 9})}, with(0, api.Part{Sum: 9}).Agg, true},
		{"of three measures", []api.Fact{three}, three.Agg, true},
		{"just fitting", []api.Fact{one(most - 1), one(1)}, with(2, api.Part{Sum: most, Min: 1, Max: most - 1}).Agg, true},
		{"a sum too great", []api.Fact{one(most), one(1)}, api.Agg{}, false},
		{"a sum too small", []api.Fact{one(-1), one(least)}, api.Agg{}, false},
		{"a sum too great on the way", []api.Fact{one(most), one(1), one(-1)}, api.Agg{}, false},
		{"a sum that fits on each way", []api.Fact{one(most), one(-1), one(1)}, with(3, api.Part{Sum: most, Min: -1, Max: most}).Agg, true},
		{"too many rows", []api.Fact{with(most, api.Part{}), one(0)}, api.Agg{}, false},
	} {
		if a, fits := fact.All(c.l...); a != c.want || fits != c.fits {
			t.Errorf("%s: All = %v, %v, want %v, %v", c.name, a, fits, c.want, c.fits)
		}
	}
}

func TestP19_1_Same(t *testing.T) {
	if !fact.Same(some(), some()) || !fact.Same(nil, []api.Fact{}) || !fact.Same(nil, nil) {
		t.Error("what is the same is not")
	}
	if !fact.Same([]api.Fact{{Keys: nil}}, []api.Fact{{Keys: []int{}}}) {
		t.Error("a tuple of no places is not the same, nil or empty")
	}
	for i := range some() {
		for name, change := range map[string]func(f *api.Fact){
			"a place more": func(f *api.Fact) { f.Keys = append(f.Keys, 0) },
			"a count":      func(f *api.Fact) { f.Agg.Count++ },
			"a sum":        func(f *api.Fact) { f.Agg.M[0].Sum++ },
			"a least":      func(f *api.Fact) { f.Agg.M[1].Min-- },
			"a greatest":   func(f *api.Fact) { f.Agg.M[2].Max++ },
			"a place": func(f *api.Fact) {
				if len(f.Keys) == 0 {
					f.Agg.Count++ // this one has none
					return
				}
				f.Keys[len(f.Keys)-1]++
			},
		} {
			l := some()
			change(&l[i])
			if fact.Same(l, some()) || fact.Same(some(), l) {
				t.Errorf("%s of fact %d makes no difference", name, i)
			}
		}
		if fact.Same(some()[:i], some()) || fact.Same(some(), some()[:i]) {
			t.Errorf("the first %d are all", i)
		}
	}
	if l := some(); fact.Same([]api.Fact{l[0], l[1]}, []api.Fact{l[1], l[0]}) {
		t.Error("the order makes no difference")
	}
}

// TestP19_1_Untouched: what is handed in is as it was.
func TestP19_1_Untouched(t *testing.T) {
	l, other := roomy(some()), roomy(some())
	x := shape()
	fact.Compare(l[0], other[1])
	fact.Check(x, l[2])
	fact.Row(x, l...)
	fact.All(l...)
	fact.Same(l, other)
	if !untouched(l, some()) || !untouched(other, some()) {
		t.Error("facts were changed")
	}
	if !slices.Equal(x.Sizes[0], []int{3, 2}) || !slices.Equal(x.Sizes[1], []int{2}) {
		t.Error("a shape was changed")
	}
}
