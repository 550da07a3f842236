package dim_test

import (
	"fmt"
	"math"
	"math/rand"
	"slices"
	"testing"

	"pithead/api"
	"pithead/dim"
	"pithead/take"
	"pithead/tier"
)

const sixteen = "0123456789abcdef"

// many are so many members, which rise.
func many(n int) []string {
	l := make([]string, n)
	for i := range l {
		l[i] = fmt.Sprintf("m%04d", i)
	}
	return l
}

// up are so many places, each of them below above, as far as they go.
func up(n, above int) []int {
	l := make([]int, n)
	for i := range l {
		l[i] = i % above
	}
	return l
}

// one is a tier of one member, which is under another one's only one, or the top one.
func one(name string, under bool) api.Tier {
	t := api.Tier{Name: name, Terms: []string{"a"}}
	if under {
		t.Up = []int{0}
	}
	return t
}

// three is a dimension of three tiers.
func three() api.Dim {
	return api.Dim{Name: "e", Tiers: []api.Tier{
		{Name: "low", Terms: []string{"a", "b", "c", "d", "e"}, Up: []int{2, 0, 1, 0, 2}},
		{Name: "mid", Terms: []string{"x", "y", "z"}, Up: []int{1, 0, 1}},
		{Name: "top", Terms: []string{"p", "q"}},
	}}
}

const bytesOfThree = "\x01e\x03" +
	"\x03top\x02\x00\x01p\x00\x01q" +
	"\x03mid\x03\x00\x01x\x00\x01y\x00\x01z\x01\x00\x01" +
	"\x03low\x05\x00\x01a\x00\x01b\x00\x01c\x00\x01d\x00\x01e\x02\x00\x01\x00\x02"

// changed is that dimension behind a change.
func changed(change func(d *api.Dim)) api.Dim {
	d := three()
	change(&d)
	return d
}

func clone(d api.Dim) api.Dim {
	c := api.Dim{Name: d.Name}
	for _, t := range d.Tiers {
		c.Tiers = append(c.Tiers, api.Tier{Name: t.Name, Terms: slices.Clone(t.Terms), Up: slices.Clone(t.Up)})
	}
	return c
}

func same(a, b api.Dim) bool {
	return a.Name == b.Name && slices.EqualFunc(a.Tiers, b.Tiers, func(a, b api.Tier) bool {
		return a.Name == b.Name && slices.Equal(a.Terms, b.Terms) && slices.Equal(a.Up, b.Up)
	})
}

// checkCase is a dimension, and what Check says.
type checkCase struct {
	name string
	d    api.Dim
	e    api.Errno
}

func checkCases() []checkCase {
	return append(checkCasesOfTiers(), []checkCase{
		{"three tiers", three(), api.OK},
		{"one tier", api.Dim{Name: "e", Tiers: []api.Tier{one("t", false)}}, api.OK},
		{"four tiers", api.Dim{Name: "e", Tiers: []api.Tier{one("a", true), one("b", true), one("c", true), one("d", false)}}, api.OK},
		{"a tier named as the dimension", api.Dim{Name: "e", Tiers: []api.Tier{one("e", false)}}, api.OK},
		{"the longest name", api.Dim{Name: "abcdefghi_12", Tiers: []api.Tier{one("t", false)}}, api.OK},

		{"nothing", api.Dim{}, api.ErrArg},
		{"no name", changed(func(d *api.Dim) { d.Name = "" }), api.ErrArg},
		{"a name too long", changed(func(d *api.Dim) { d.Name = "abcdefghijklm" }), api.ErrArg},
		{"a capital letter, and no tiers", api.Dim{Name: "E"}, api.ErrArg},
		{"no name, and tiers that may not be", api.Dim{Tiers: []api.Tier{{Name: "t"}}}, api.ErrArg},
		{"no tiers", api.Dim{Name: "e"}, api.ErrLimit},
		{"no tiers, an empty list", api.Dim{Name: "e", Tiers: []api.Tier{}}, api.ErrLimit},
		{"five tiers", api.Dim{Name: "e", Tiers: []api.Tier{one("a", true), one("b", true), one("c", true), one("d", true), one("f", false)}}, api.ErrLimit},
		{"five tiers that may not be", api.Dim{Name: "e", Tiers: make([]api.Tier, 5)}, api.ErrLimit},
		{"one name twice", changed(func(d *api.Dim) { d.Tiers[1].Name = "low" }), api.ErrTwice},
		{"one name twice, far off", changed(func(d *api.Dim) { d.Tiers[2].Name = "low" }), api.ErrTwice},
		{"one name twice, at the top", changed(func(d *api.Dim) { d.Tiers[2].Name = "mid" }), api.ErrTwice},
		{"one name twice, ahead of a fault", changed(func(d *api.Dim) { d.Tiers[1].Name = "low"; d.Tiers[2].Name = "" }), api.ErrTwice},
		{"one name twice, in a tier with a fault", changed(func(d *api.Dim) { d.Tiers[1].Name = "low"; d.Tiers[1].Up = nil }), api.ErrTree},
		{"a fault ahead of one name twice", changed(func(d *api.Dim) { d.Tiers[0].Up[0] = 9; d.Tiers[1].Name = "low" }), api.ErrTree},
	}...)
}

func checkCasesOfTiers() []checkCase {
	return []checkCase{
		{"a tier without a name", changed(func(d *api.Dim) { d.Tiers[1].Name = "" }), api.ErrArg},
		{"a tier without members", changed(func(d *api.Dim) { d.Tiers[0].Terms = nil }), api.ErrLimit},
		{"a tier of 201 members", changed(func(d *api.Dim) { d.Tiers[0].Terms, d.Tiers[0].Up = many(201), up(201, 3) }), api.ErrLimit},
		{"an empty member", changed(func(d *api.Dim) { d.Tiers[0].Terms[0] = "" }), api.ErrArg},
		{"members that fall", changed(func(d *api.Dim) { d.Tiers[2].Terms[0] = "z" }), api.ErrOrder},
		{"the last one with an Up", changed(func(d *api.Dim) { d.Tiers[2].Up = []int{0, 0} }), api.ErrTree},
		{"the first one without an Up", changed(func(d *api.Dim) { d.Tiers[0].Up = nil }), api.ErrTree},
		{"the midst without an Up", changed(func(d *api.Dim) { d.Tiers[1].Up = nil }), api.ErrTree},
		{"one under a member that there is not", changed(func(d *api.Dim) { d.Tiers[0].Up[4] = 3 }), api.ErrTree},
		{"nobody under a member", changed(func(d *api.Dim) { d.Tiers[0].Up[2] = 0 }), api.ErrTree},
		{"nobody under a member of the top one", changed(func(d *api.Dim) { d.Tiers[1].Up[1] = 1 }), api.ErrTree},
		{"a member more above", changed(func(d *api.Dim) { d.Tiers[1].Terms = []string{"x", "y", "z", "zz"} }), api.ErrTree},
		{"none above: the first one's fault comes ahead", changed(func(d *api.Dim) { d.Tiers[1].Terms = nil }), api.ErrTree},
		{"none above one that tells of none", changed(func(d *api.Dim) { d.Tiers[0].Up = nil; d.Tiers[1].Terms = nil }), api.ErrLimit},
		{"two faults, the first one's", changed(func(d *api.Dim) { d.Tiers[1].Name = ""; d.Tiers[2].Terms[0] = "z" }), api.ErrArg},
		{"two faults, the first one's again", changed(func(d *api.Dim) { d.Tiers[0].Terms[0] = "z"; d.Tiers[1].Name = "" }), api.ErrOrder},
	}
}

func TestP16_1_Check(t *testing.T) {
	for _, c := range checkCases() {
		before := clone(c.d)
		if e := dim.Check(c.d); e != c.e {
			t.Errorf("%s: Check = %v, want %v", c.name, e, c.e)
		}
		if !same(before, c.d) {
			t.Errorf("%s: Check has changed its dimension", c.name)
		}
	}
}

// TestP16_1_End: what stands behind the tiers' end is not looked at.
func TestP16_1_End(t *testing.T) {
	d := three()
	d.Tiers = d.Tiers[:1]
	if e := dim.Check(d); e != api.ErrTree {
		t.Errorf("Check = %v", e)
	}
	d.Tiers[0].Up = nil
	if e := dim.Check(d); e != api.OK {
		t.Errorf("Check = %v", e)
	}
	if _, is := dim.Named(d, "mid"); is || dim.Has(d, 1) || len(dim.Sizes(d)) != 1 || dim.Lift(d, 0, 1, 0) != -1 {
		t.Error("a tier behind the end is there")
	}
}

func TestP16_1_Has(t *testing.T) {
	for _, c := range []struct {
		d    api.Dim
		k    int
		want bool
	}{
		{three(), 0, true}, {three(), 1, true}, {three(), 2, true}, {three(), 3, false}, {three(), -1, false},
		{three(), math.MaxInt, false}, {three(), math.MinInt, false}, {api.Dim{}, 0, false}, {api.Dim{}, -1, false},
		{api.Dim{Tiers: make([]api.Tier, 9)}, 8, true}, {api.Dim{Tiers: make([]api.Tier, 9)}, 9, false},
	} {
		if is := dim.Has(c.d, c.k); is != c.want {
			t.Errorf("Has(%d) of %d = %v", c.k, len(c.d.Tiers), is)
		}
	}
}

func TestP16_1_Named(t *testing.T) {
	twice := changed(func(d *api.Dim) { d.Tiers[0].Name = "mid" })
	nameless := api.Dim{Name: "e", Tiers: []api.Tier{one("t", true), {}}}
	for _, c := range []struct {
		d    api.Dim
		name string
		k    int
		is   bool
	}{
		{three(), "low", 0, true}, {three(), "mid", 1, true}, {three(), "top", 2, true},
		{three(), "e", 0, false}, {three(), "", 0, false}, {three(), "Top", 0, false}, {three(), "to", 0, false}, {three(), "topp", 0, false},
		{twice, "mid", 0, true}, {twice, "top", 2, true}, {twice, "low", 0, false},
		{nameless, "", 1, true}, {api.Dim{}, "", 0, false}, {api.Dim{Name: "e"}, "e", 0, false},
	} {
		if k, is := dim.Named(c.d, c.name); k != c.k || is != c.is {
			t.Errorf("Named(%q) = %d, %v, want %d, %v", c.name, k, is, c.k, c.is)
		}
	}
}

func TestP16_1_Sizes(t *testing.T) {
	if l := dim.Sizes(three()); !slices.Equal(l, []int{5, 3, 2}) {
		t.Errorf("Sizes = %v", l)
	}
	if l := dim.Sizes(api.Dim{}); len(l) != 0 {
		t.Errorf("Sizes of none = %v", l)
	}
	odd := api.Dim{Tiers: []api.Tier{{Terms: many(300)}, {Up: []int{1, 2}}, {Terms: []string{"", ""}}, {}, {Terms: many(1)}}}
	if l := dim.Sizes(odd); !slices.Equal(l, []int{300, 0, 2, 0, 1}) {
		t.Errorf("Sizes of one made by hand = %v", l)
	}
}

// odd is a dimension that may not be: its tiers tell of members that there are not, or of none.
func odd() api.Dim {
	return api.Dim{Tiers: []api.Tier{
		{Terms: []string{"a", "b", "c", "d"}, Up: []int{3, -7, 1, 2, 0, 0}},
		{Terms: []string{"x"}, Up: []int{0, math.MinInt, 5, math.MaxInt}},
		{Terms: []string{"p", "q"}, Up: []int{8}},
		{},
	}}
}

func TestP16_2_Lift(t *testing.T) {
	for _, c := range []struct {
		name            string
		d               api.Dim
		from, to, i, at int
	}{
		{"itself", three(), 0, 0, 3, 3},
		{"itself, in the midst", three(), 1, 1, 2, 2},
		{"itself, at the top", three(), 2, 2, 1, 1},
		{"one up", three(), 0, 1, 0, 2},
		{"one up, from the midst", three(), 1, 2, 1, 0},
		{"two up", three(), 0, 2, 0, 1},
		{"two up, another one", three(), 0, 2, 2, 0},
		{"down", three(), 1, 0, 0, -1},
		{"far down", three(), 2, 0, 0, -1},
		{"no such member", three(), 0, 2, 5, -1},
		{"no such member, itself", three(), 0, 0, 5, -1},
		{"no such member at the top", three(), 2, 2, 2, -1},
		{"one below 0", three(), 0, 1, -1, -1},
		{"one below 0, itself", three(), 0, 0, -1, -1},
		{"one far below 0", three(), 0, 0, math.MinInt, -1},
		{"one far off", three(), 0, 0, math.MaxInt, -1},
		{"no tier to come to", three(), 0, 3, 0, -1},
		{"no tier to come from", three(), -1, 1, 0, -1},
		{"no tiers, but one number", three(), 3, 3, 0, -1},
		{"no tiers below 0, but one number", three(), -1, -1, 0, -1},
		{"huge numbers", three(), 0, math.MaxInt, 0, -1},
		{"huge numbers below 0", three(), math.MinInt, 1, 0, -1},
		{"the greatest number", three(), math.MaxInt, math.MaxInt, 0, -1},
		{"of none", api.Dim{}, 0, 0, 0, -1},

		{"a place that there is not is answered", odd(), 0, 1, 0, 3},
		{"and gone on from", odd(), 0, 2, 0, math.MaxInt},
		{"and gone on from, to none", odd(), 0, 3, 0, -1},
		{"a place that there is not, again", odd(), 0, 2, 3, 5},
		{"one below 0 is none", odd(), 0, 1, 1, -1},
		{"one below 0 is none, further on", odd(), 0, 2, 2, -1},
		{"what is told of more than there are", odd(), 0, 1, 4, -1},
		{"what is told of more than there are, in the midst", odd(), 1, 2, 1, -1},
		{"a last tier without members", odd(), 2, 3, 0, 8},
		{"a member of which nothing is told", odd(), 2, 3, 1, -1},
		{"a tier without members, itself", odd(), 3, 3, 0, -1},
	} {
		if at := dim.Lift(c.d, c.from, c.to, c.i); at != c.at {
			t.Errorf("%s: Lift(%d, %d, %d) = %d, want %d", c.name, c.from, c.to, c.i, at, c.at)
		}
	}
}

func TestP16_2_Map(t *testing.T) {
	for _, c := range []struct {
		name     string
		d        api.Dim
		from, to int
		want     []int
	}{
		{"itself", three(), 0, 0, []int{0, 1, 2, 3, 4}},
		{"one up", three(), 0, 1, []int{2, 0, 1, 0, 2}},
		{"two up", three(), 0, 2, []int{1, 1, 0, 1, 1}},
		{"from the midst", three(), 1, 2, []int{1, 0, 1}},
		{"the top", three(), 2, 2, []int{0, 1}},
		{"down", three(), 1, 0, nil},
		{"no tier to come to", three(), 0, 3, nil},
		{"no tier to come from", three(), -1, 0, nil},
		{"no tiers", three(), 3, 3, nil},
		{"huge numbers", three(), math.MinInt, math.MaxInt, nil},
		{"of none", api.Dim{}, 0, 0, nil},
		{"made by hand", odd(), 0, 1, []int{3, -1, 1, 2}},
		{"made by hand, further", odd(), 0, 2, []int{math.MaxInt, -1, -1, 5}},
		{"made by hand, as far as it goes", odd(), 0, 3, []int{-1, -1, -1, -1}},
		{"made by hand, of two", odd(), 2, 3, []int{8, -1}},
		{"without members", odd(), 3, 3, nil},
	} {
		if l := dim.Map(c.d, c.from, c.to); !slices.Equal(l, c.want) {
			t.Errorf("%s: Map(%d, %d) = %v, want %v", c.name, c.from, c.to, l, c.want)
		}
	}
}

func TestP16_2_Drill(t *testing.T) {
	for _, c := range []struct {
		name        string
		d           api.Dim
		from, to, i int
		want        []int
	}{
		{"itself", three(), 0, 0, 3, []int{3}},
		{"one down", three(), 0, 1, 0, []int{1, 3}},
		{"one down, another one", three(), 0, 1, 2, []int{0, 4}},
		{"two down", three(), 0, 2, 1, []int{0, 1, 3, 4}},
		{"two down, to one", three(), 0, 2, 0, []int{2}},
		{"to the midst", three(), 1, 2, 1, []int{0, 2}},
		{"no such member", three(), 0, 1, 3, nil},
		{"one below 0", three(), 0, 1, -1, nil},
		{"one far below 0", three(), 0, 1, math.MinInt, nil},
		{"up", three(), 1, 0, 0, nil},
		{"no such tiers", three(), 3, 3, 0, nil},
		{"no such tiers, below 0", three(), -1, 2, 0, nil},
		{"of none", api.Dim{}, 0, 0, 0, nil},
		{"made by hand, one that there is not", odd(), 0, 1, 3, []int{0}},
		{"made by hand, a huge one", odd(), 0, 2, math.MaxInt, []int{0}},
		{"made by hand, under none", odd(), 0, 2, -1, nil},
		{"made by hand, one below 0 that is told", odd(), 0, 1, -7, nil},
		{"made by hand, without members above", odd(), 2, 3, 8, []int{0}},
	} {
		if l := dim.Drill(c.d, c.from, c.to, c.i); !slices.Equal(l, c.want) {
			t.Errorf("%s: Drill(%d, %d, %d) = %v, want %v", c.name, c.from, c.to, c.i, l, c.want)
		}
	}
}

// TestP16_2_IsNew: lists that are answered share nothing with the dimension, nor with one another.
func TestP16_2_IsNew(t *testing.T) {
	d := three()
	for _, list := range []func() []int{
		func() []int { return dim.Map(d, 0, 1) },
		func() []int { return dim.Map(d, 0, 0) },
		func() []int { return dim.Drill(d, 0, 1, 0) },
		func() []int { return dim.Sizes(d) },
	} {
		l := list()
		before := slices.Clone(l)
		l = l[:cap(l)]
		for i := range l {
			l[i] = 77
		}
		if !same(d, three()) || !slices.Equal(list(), before) {
			t.Errorf("%v, want %v behind a change of an earlier answer", list(), before)
		}
	}
}

func TestP16_3_Put(t *testing.T) {
	for _, c := range []struct {
		name string
		d    api.Dim
		s    string
	}{
		{"three tiers, the last one first", three(), bytesOfThree},
		{"one tier", api.Dim{Name: "d", Tiers: []api.Tier{one("t", false)}}, "\x01d\x01\x01t\x01\x00\x01a"},
		{"four tiers", api.Dim{Name: "abcdefghi_12", Tiers: []api.Tier{one("a", true), one("b", true), one("c", true), one("d", false)}},
			"\x0cabcdefghi_12\x04\x01d\x01\x00\x01a\x01c\x01\x00\x01a\x00\x01b\x01\x00\x01a\x00\x01a\x01\x00\x01a\x00"},
	} {
		if s, e := dim.Put(c.d); s != c.s || e != api.OK {
			t.Errorf("%s: Put = %q, %v, want %q", c.name, s, e, c.s)
		}
	}
	for _, c := range checkCases() {
		before := clone(c.d)
		s, e := dim.Put(c.d)
		if e != c.e || (e == api.OK) != (s != "") {
			t.Errorf("%s: Put = %q, %v, want %v", c.name, s, e, c.e)
		}
		if !same(before, c.d) {
			t.Errorf("%s: Put has changed its dimension", c.name)
		}
	}
}

// takeCase is bytes, and what Take says.
type takeCase struct {
	name, s string
	d       api.Dim
	e       api.Errno
}

func takeCases() []takeCase {
	const topmost, low = "\x03top\x02\x00\x01p\x00\x01q", "\x03low\x03\x00\x01a\x00\x01b\x00\x01c"
	two := api.Dim{Name: "e", Tiers: []api.Tier{
		{Name: "low", Terms: []string{"a", "b", "c"}, Up: []int{0, 1, 1}},
		{Name: "top", Terms: []string{"p", "q"}},
	}}
	return []takeCase{
		{"three tiers", bytesOfThree, three(), api.OK},
		{"two tiers", "\x01e\x02" + topmost + low + "\x00\x01\x01", two, api.OK},
		{"one tier", "\x01e\x01" + topmost, api.Dim{Name: "e", Tiers: two.Tiers[1:]}, api.OK},
		{"the longest name", "\x0cabcdefghi_12\x01" + topmost, api.Dim{Name: "abcdefghi_12", Tiers: two.Tiers[1:]}, api.OK},

		{"nothing", "", api.Dim{}, api.ErrForm},
		{"a name cut off", "\x05e", api.Dim{}, api.ErrForm},
		{"a name too long", "\x0dabcdefghijklm\x01" + topmost, api.Dim{}, api.ErrLimit},
		{"a name alone", "\x01e", api.Dim{}, api.ErrForm},
		{"no name", "\x00\x01" + topmost, api.Dim{}, api.ErrArg},
		{"no name, and a tier with a fault", "\x00\x01\x03top\x00", api.Dim{}, api.ErrLimit},
		{"a capital letter", "\x01E\x01" + topmost, api.Dim{}, api.ErrArg},
		{"a capital letter, and bytes left", "\x01E\x01" + topmost + "x", api.Dim{}, api.ErrArg},
		{"no tiers", "\x01e\x00", api.Dim{}, api.ErrLimit},
		{"no name, and no tiers", "\x00\x00", api.Dim{}, api.ErrArg},
		{"five tiers", "\x01e\x05" + topmost, api.Dim{}, api.ErrLimit},
		{"five tiers, cut off", "\x01e\x05", api.Dim{}, api.ErrLimit},
		{"four tiers, cut off", "\x01e\x04", api.Dim{}, api.ErrForm},
		{"a tier missing", "\x01e\x02" + topmost, api.Dim{}, api.ErrForm},
		{"a tier more", "\x01e\x01" + topmost + low + "\x00\x01\x01", api.Dim{}, api.ErrForm},
		{"the first one with an Up", "\x01e\x01" + topmost + "\x00\x00", api.Dim{}, api.ErrForm},
		{"the second one without an Up", "\x01e\x02" + topmost + low, api.Dim{}, api.ErrForm},
		{"a place too high", "\x01e\x02" + topmost + low + "\x00\x02\x01", api.Dim{}, api.ErrLimit},
		{"nobody under one", "\x01e\x02" + topmost + low + "\x01\x01\x01", api.Dim{}, api.ErrTree},
		{"the finest one first", "\x01e\x02" + low + "\x03top\x02\x00\x01p\x00\x01q\x00\x01", api.Dim{}, api.ErrTree},
		{"a tier without a name", "\x01e\x01\x00\x01\x00\x01p", api.Dim{}, api.ErrArg},
		{"members that fall", "\x01e\x01\x03top\x02\x00\x01q\x00\x01p", api.Dim{}, api.ErrForm},
		{"one name twice", "\x01e\x02" + topmost + topmost + "\x00\x01", api.Dim{}, api.ErrTwice},
		{"one name twice, ahead of a fault", "\x01e\x03" + topmost + topmost + "\x00\x01" + low + "\x00\x00\x00", api.Dim{}, api.ErrTree},
		{"bytes left", bytesOfThree + "x", api.Dim{}, api.ErrForm},
	}
}

func TestP16_3_Take(t *testing.T) {
	for _, c := range takeCases() {
		if d, e := dim.Take(c.s); e != c.e || !same(d, c.d) {
			t.Errorf("%s: Take(%q) = %v, %v, want %v, %v", c.name, c.s, d, e, c.d, c.e)
		}
	}
	for cut := range len(bytesOfThree) {
		if d, e := dim.Take(bytesOfThree[:cut]); e != api.ErrForm || !same(d, api.Dim{}) {
			t.Errorf("cut off at %d: Take = %v, %v", cut, d, e)
		}
	}
}

// TestP16_3_Read: Read stands within a reading: ahead of it, and behind it, something else is read.
func TestP16_3_Read(t *testing.T) {
	for _, c := range takeCases() {
		var d api.Dim
		past := false
		e := take.All("x"+c.s+"yz", func(r *take.Reader) {
			r.Byte()
			d = dim.Read(r)
			past = true
			r.Want(r.Left() == 2 && r.Fix(2) == "yz", api.ErrForm)
		})
		if c.e == api.OK && (e != api.OK || !same(d, c.d)) {
			t.Errorf("%s: Read = %v, %v, want %v", c.name, d, e, c.d)
		}
		if c.e != api.OK && c.e != api.ErrForm && (e != c.e || past) {
			t.Errorf("%s: Read: %v, past it: %v, want %v", c.name, e, past, c.e)
		}
	}
}

func TestP16_3_ReadOutside(t *testing.T) {
	var kept *take.Reader
	take.All("\x01e\x00", func(r *take.Reader) { kept = r })
	for _, r := range []*take.Reader{nil, {}, kept} {
		if d := dim.Read(r); !same(d, api.Dim{}) {
			t.Errorf("Read outside of a reading = %v", d)
		}
	}
}

func TestP16_3_TakeIsNew(t *testing.T) {
	d, _ := dim.Take(bytesOfThree)
	for k, x := range d.Tiers {
		for i := range x.Terms {
			x.Terms[i] = "zz"
		}
		for i := range x.Up {
			x.Up[i] = 77
		}
		d.Tiers[k].Name = "zz"
	}
	if again, e := dim.Take(bytesOfThree); e != api.OK || !same(again, three()) {
		t.Errorf("Take = %v, %v behind a change of an earlier answer", again, e)
	}
}

// dims are dimensions that may be.
func dims() []api.Dim {
	r := rand.New(rand.NewSource(16))
	l := []api.Dim{three()}
	for range 60 {
		d := api.Dim{Name: "e"}
		n := 1 + r.Intn(60)
		for k := range 1 + r.Intn(4) {
			t := api.Tier{Name: fmt.Sprintf("t%d", k), Terms: many(n)}
			if k > 0 {
				below := &d.Tiers[k-1]
				below.Up = up(len(below.Terms), n)
				r.Shuffle(len(below.Up), func(i, j int) { below.Up[i], below.Up[j] = below.Up[j], below.Up[i] })
			}
			d.Tiers = append(d.Tiers, t)
			n = 1 + r.Intn(n)
		}
		l = append(l, d)
	}
	return l
}

func TestP16_4_Back(t *testing.T) {
	for _, d := range dims() {
		s, e := dim.Put(d)
		if e != api.OK {
			t.Fatalf("Put = %v", e)
		}
		if back, e := dim.Take(s); e != api.OK || !same(back, d) {
			t.Errorf("Take of Put = %v, %v, want %v", back, e, d)
		}
	}
}

// TestP16_4_SameBytes: bytes that are near those of a dimension are taken as none, or as one whose bytes they are.
func TestP16_4_SameBytes(t *testing.T) {
	taken := 0
	for i := range len(bytesOfThree) {
		for b := range 256 {
			near := bytesOfThree[:i] + string([]byte{byte(b)}) + bytesOfThree[i+1:]
			d, e := dim.Take(near)
			if e != api.OK {
				if !same(d, api.Dim{}) {
					t.Errorf("Take(%q) = %v beside %v", near, d, e)
				}
				continue
			}
			taken++
			if back, e := dim.Put(d); back != near || e != api.OK {
				t.Errorf("Put of Take(%q) = %q, %v", near, back, e)
			}
		}
	}
	if taken < len(bytesOfThree) {
		t.Errorf("%d were taken", taken)
	}
}

// TestP16_4_ByWayOf: Lift by way of a tier is Lift; Map and Drill tell the same as Lift, and tier's Over as Lift one up.
func TestP16_4_ByWayOf(t *testing.T) {
	for _, d := range dims() {
		last := len(d.Tiers) - 1
		for from := range d.Tiers {
			for to := from; to <= last; to++ {
				wantLift(t, d, from, to)
			}
		}
	}
}

// wantLift holds Lift from a tier to another one against itself, by way of each tier between them, and against Map and Drill.
func wantLift(t *testing.T, d api.Dim, from, to int) {
	t.Helper()
	l := dim.Map(d, from, to)
	if len(l) != len(d.Tiers[from].Terms) {
		t.Fatalf("Map(%d, %d) = %v", from, to, l)
	}
	for i, at := range l {
		if got := dim.Lift(d, from, to, i); got != at || at < 0 || at >= len(d.Tiers[to].Terms) {
			t.Fatalf("Lift(%d, %d, %d) = %d, and Map's %d", from, to, i, got, at)
		}
		for by := from; by <= to; by++ {
			if got := dim.Lift(d, by, to, dim.Lift(d, from, by, i)); got != at {
				t.Fatalf("Lift(%d, %d, %d) by way of %d = %d, want %d", from, to, i, by, got, at)
			}
		}
		if to == from+1 && tier.Over(d.Tiers[from], i) != at {
			t.Fatalf("Lift(%d, %d, %d) = %d", from, to, i, at)
		}
		if !slices.Contains(dim.Drill(d, from, to, at), i) {
			t.Fatalf("%d is not under %d", i, at)
		}
	}
	all := 0
	for n := range d.Tiers[to].Terms {
		under := dim.Drill(d, from, to, n)
		if len(under) == 0 || !slices.IsSorted(under) {
			t.Fatalf("Drill(%d, %d, %d) = %v", from, to, n, under)
		}
		all += len(under)
	}
	if all != len(l) {
		t.Fatalf("Drill(%d, %d) brings %d members of %d", from, to, all, len(l))
	}
}

// TestP16_1_Longest: the longest member may be one.
func TestP16_1_Longest(t *testing.T) {
	d := api.Dim{Name: "e", Tiers: []api.Tier{{Name: "t", Terms: []string{sixteen}}}}
	if e := dim.Check(d); e != api.OK {
		t.Errorf("Check = %v", e)
	}
	d.Tiers[0].Terms[0] += "g"
	if e := dim.Check(d); e != api.ErrArg {
		t.Errorf("Check = %v", e)
	}
}
