package ask_test

import (
	"fmt"
	"math"
	"math/rand"
	"slices"
	"strings"
	"testing"

	"pithead/api"
	"pithead/ask"
)

const (
	most, least = math.MaxInt64, math.MinInt64
	sixteen     = "0123456789abcdef"
)

// small is of a dimension of one tier, and one of three.
func small() api.Schema {
	return api.Schema{Dims: []api.Dim{
		{Name: "d", Tiers: []api.Tier{{Name: "t", Terms: []string{sixteen, "a", "b"}}}},
		{Name: "e", Tiers: []api.Tier{
			{Name: "low", Terms: []string{"x", "xx", "y", "z"}, Up: []int{0, 0, 1, 2}},
			{Name: "mid", Terms: []string{"p", "pq", "q"}, Up: []int{0, 0, 1}},
			{Name: "top", Terms: []string{"u", "v"}},
		}},
	}, Measures: []string{"m"}}
}

// of is a query of picks.
func of(l ...api.Pick) api.Query { return api.Query{Picks: l} }

func within(tier int, lo, hi string) api.Pick {
	return api.Pick{Filter: api.Within, Tier: tier, Lo: lo, Hi: hi}
}

func among(tier int, set ...string) api.Pick {
	return api.Pick{Filter: api.Among, Tier: tier, Set: set}
}

// by is a pick, grouped by a tier.
func by(tier int, p api.Pick) api.Pick {
	p.Group, p.By = true, tier
	return p
}

func samePick(a, b api.Pick) bool {
	setA, setB := a.Set, b.Set
	a.Set, b.Set = nil, nil
	return fmt.Sprintf("%#v", a) == fmt.Sprintf("%#v", b) && slices.Equal(setA, setB)
}

func same(a, b api.Query) bool { return slices.EqualFunc(a.Picks, b.Picks, samePick) }

// bad are schemas that may not be, and what schema's Check says of them.
func bad() map[string]struct {
	s api.Schema
	e api.Errno
} {
	none, order, tree, twice, named := small(), small(), small(), small(), small()
	none.Measures = nil
	order.Dims[0].Tiers[0].Terms[0] = "z"
	tree.Dims[1].Tiers[0].Up[3] = 0
	twice.Dims[1].Name = "d"
	named.Measures[0] = "M"
	return map[string]struct {
		s api.Schema
		e api.Errno
	}{
		"nothing":                        {api.Schema{}, api.ErrLimit},
		"no measures":                    {none, api.ErrLimit},
		"members that fall":              {order, api.ErrOrder},
		"no tree":                        {tree, api.ErrTree},
		"one name twice":                 {twice, api.ErrTwice},
		"a measure with no name for one": {named, api.ErrArg},
	}
}

// pickCase is a pick of the second dimension, and what Check says of it.
type pickCase struct {
	name string
	p    api.Pick
	e    api.Errno
}

func pickCases() []pickCase {
	long := sixteen + "g"
	return slices.Concat(anyCases(), withinCases(long), amongCases(long), groupCases())
}

func anyCases() []pickCase {
	return []pickCase{
		{"any", api.Pick{}, api.OK},
		{"any, an empty set", api.Pick{Set: []string{}}, api.OK},
		{"a filter below 0", api.Pick{Filter: -1}, api.ErrArg},
		{"a filter beyond", api.Pick{Filter: 3}, api.ErrArg},
		{"a filter far beyond", api.Pick{Filter: most}, api.ErrArg},
		{"a filter far below 0", api.Pick{Filter: least, Tier: 9}, api.ErrArg},
		{"any of a tier", api.Pick{Tier: 1}, api.ErrArg},
		{"any of a tier below 0", api.Pick{Tier: -1}, api.ErrArg},
		{"any with a lower end", api.Pick{Lo: "x"}, api.ErrArg},
		{"any with an upper end", api.Pick{Hi: "x"}, api.ErrArg},
		{"any with a long end", api.Pick{Hi: sixteen + "g"}, api.ErrArg},
		{"any with a set", api.Pick{Set: []string{"x"}}, api.ErrArg},
		{"any with a set that falls", api.Pick{Set: []string{"y", "x"}}, api.ErrArg},
	}
}

func withinCases(long string) []pickCase {
	set := within(0, "x", "y")
	set.Set = []string{"x"}
	longSet := within(0, long, long)
	longSet.Set = []string{"x"}
	return []pickCase{
		{"within", within(0, "x", "y"), api.OK},
		{"within the coarsest tier", within(2, "u", "v"), api.OK},
		{"within no ends", within(1, "", ""), api.OK},
		{"within ends that fall", within(1, "z", "a"), api.OK},
		{"within ends that are no members", within(0, "\x00", "\xff\xff"), api.OK},
		{"within long ends", within(0, sixteen, sixteen), api.OK},
		{"within a tier below 0", within(-1, "x", "y"), api.ErrArg},
		{"within a tier far below 0", within(least, "x", "y"), api.ErrArg},
		{"within a tier beyond", within(3, "x", "y"), api.ErrArg},
		{"within a tier far beyond", within(most, long, "y"), api.ErrArg},
		{"within a set", set, api.ErrArg},
		{"within a set and too long ends", longSet, api.ErrArg},
		{"within a lower end too long", within(0, long, "y"), api.ErrLimit},
		{"within an upper end too long", within(0, "x", long), api.ErrLimit},
		{"within an end far too long", within(0, "x", strings.Repeat("x", 9999)), api.ErrLimit},
		{"too long, and grouped by no tier", by(3, within(0, long, "y")), api.ErrLimit},
	}
}

func amongCases(long string) []pickCase {
	lo, hi := among(0, "y", "x"), among(0, "nix")
	lo.Lo, hi.Hi = "x", "x"
	many := make([]string, 300)
	for i := range many {
		many[i] = fmt.Sprintf("m%03d", i)
	}
	return []pickCase{
		{"among none", among(0), api.OK},
		{"among one", among(0, "xx"), api.OK},
		{"among all", among(0, "x", "xx", "y", "z"), api.OK},
		{"among some of the middle tier", among(1, "p", "q"), api.OK},
		{"among the coarsest tier's", among(2, "v"), api.OK},
		{"among a tier's below 0", among(-1, "x"), api.ErrArg},
		{"among a tier's beyond", among(3, "x"), api.ErrArg},
		{"among a tier's beyond, falling", among(most, "y", "x"), api.ErrArg},
		{"among, with a lower end, falling", lo, api.ErrArg},
		{"among, with an upper end, no member", hi, api.ErrArg},
		{"among what falls", among(0, "y", "x"), api.ErrOrder},
		{"among one twice", among(0, "x", "x"), api.ErrOrder},
		{"among what falls behind no member", among(0, "nix", "a"), api.ErrOrder},
		{"among an empty one", among(0, ""), api.ErrArg},
		{"among an empty one behind another one", among(0, "x", ""), api.ErrArg},
		{"among what is too long", among(0, "x", "y"+long), api.ErrArg},
		{"among no member", among(0, "w"), api.ErrMember},
		{"among no member at the end", among(0, "x", "y", "zz"), api.ErrMember},
		{"among another tier's", among(0, "p"), api.ErrMember},
		{"among a finer tier's", among(1, "x"), api.ErrMember},
		{"among another dimension's", among(0, "a"), api.ErrMember},
		{"among a great many", among(0, many...), api.ErrMember},
		{"no member, and grouped by no tier", by(3, among(0, "w")), api.ErrMember},
	}
}

func groupCases() []pickCase {
	return []pickCase{
		{"grouped", by(0, api.Pick{}), api.OK},
		{"grouped by the coarsest", by(2, api.Pick{}), api.OK},
		{"grouped by a finer one than the filter's", by(0, among(2, "u")), api.OK},
		{"grouped by a coarser one than the filter's", by(2, within(0, "x", "y")), api.OK},
		{"grouped by one beyond", by(3, api.Pick{}), api.ErrArg},
		{"grouped by one far beyond", by(most, api.Pick{}), api.ErrArg},
		{"grouped by one below 0", by(-1, within(0, "x", "y")), api.ErrArg},
		{"not grouped, but by one", api.Pick{By: 1}, api.ErrArg},
		{"not grouped, but by one below 0", api.Pick{By: -1}, api.ErrArg},
		{"filtered, not grouped, but by one", api.Pick{Filter: api.Among, By: 2}, api.ErrArg},
	}
}

// wantError: Check tells an error, and so does Put, which answers nothing else.
func wantError(t *testing.T, name string, s api.Schema, q api.Query, want api.Errno) {
	t.Helper()
	if e := ask.Check(s, q); e != want {
		t.Errorf("%s: Check = %v, want %v", name, e, want)
	}
	if b, e := ask.Put(s, q); e != want || (b == "") != (e != api.OK) {
		t.Errorf("%s: Put = %q, %v, want %v", name, b, e, want)
	}
}

func TestP35_1_Check(t *testing.T) {
	for _, c := range pickCases() {
		wantError(t, c.name, small(), of(api.Pick{}, c.p), c.e)
		// The first pick that may not be tells.
		wantError(t, c.name+", ahead of another", api.Schema{Dims: []api.Dim{small().Dims[1], small().Dims[0]}, Measures: []string{"m"}}, of(c.p, by(0, among(0, "a"))), c.e)
		wantError(t, c.name+", behind another", small(), of(among(0, "b", "a"), c.p), api.ErrOrder)
		wantError(t, c.name+", behind one of a tier beyond", small(), of(by(1, api.Pick{}), c.p), api.ErrArg)
	}
	// Of one tier there is no other.
	wantError(t, "one tier", small(), of(by(1, api.Pick{}), api.Pick{}), api.ErrArg)
	wantError(t, "one tier", small(), of(within(1, "", ""), api.Pick{}), api.ErrArg)
	wantError(t, "the last one too long", small(), of(by(0, within(0, sixteen, "b")), within(0, "", sixteen+"g")), api.ErrLimit)
}

func TestP35_1_Picks(t *testing.T) {
	for _, l := range [][]api.Pick{nil, {}, {{}}, {{}, {}, {}}, {{Filter: 9}}, {{}, {}, among(0, "x", "x")}, make([]api.Pick, 999)} {
		wantError(t, fmt.Sprintf("%d picks", len(l)), small(), of(l...), api.ErrArg)
	}
}

// TestP35_1_Schema: a schema that may not be is told ahead of all else.
func TestP35_1_Schema(t *testing.T) {
	for name, c := range bad() {
		for _, q := range []api.Query{{}, of(api.Pick{}, api.Pick{}), of(api.Pick{Filter: 9}, api.Pick{}), of(api.Pick{}, among(0, "z", "x"))} {
			wantError(t, name, c.s, q, c.e)
		}
		for _, b := range []string{"", "\x00\x00\x00\x00", "\x00", "\xff", "\x03\x00\x00\x00"} {
			if q, e := ask.Take(c.s, b); len(q.Picks) != 0 || e != c.e {
				t.Errorf("%s: Take(%q) = %v, %v, want %v", name, b, q, e, c.e)
			}
		}
	}
}

// form is a query, and its bytes.
type form struct {
	name string
	q    api.Query
	b    string
}

func forms() []form {
	return []form{
		{"all", of(api.Pick{}, api.Pick{}), "\x00\x00\x00\x00"},
		{"grouped", of(by(0, api.Pick{}), by(0, api.Pick{})), "\x00\x01\x00\x01"},
		{"grouped by the coarsest", of(api.Pick{}, by(2, api.Pick{})), "\x00\x00\x00\x03"},
		{"within", of(within(0, "a", sixteen), api.Pick{}), "\x01\x00\x01a\x10" + sixteen + "\x00\x00\x00"},
		{"within no ends", of(api.Pick{}, within(2, "", "")), "\x00\x00\x01\x02\x00\x00\x00"},
		{"within, grouped", of(by(0, within(0, "b", "a")), by(1, within(2, "u", "uu"))), "\x01\x00\x01b\x01a\x01\x01\x02\x01u\x02uu\x02"},
		{"among none", of(among(0), api.Pick{}), "\x02\x00\x00\x00\x00\x00"},
		{"among, grouped", of(api.Pick{}, by(2, among(1, "p", "pq", "q"))), "\x00\x00\x02\x01\x03\x00\x01p\x01\x01q\x00\x01q\x03"},
		{"among all", of(among(0, sixteen, "a", "b"), among(0, "x", "xx")), "\x02\x00\x03\x00\x10" + sixteen + "\x00\x01a\x00\x01b\x00\x02\x00\x02\x00\x01x\x01\x01x\x00"},
	}
}

func TestP35_2_Put(t *testing.T) {
	for _, c := range forms() {
		if b, e := ask.Put(small(), c.q); b != c.b || e != api.OK {
			t.Errorf("%s: Put = %q, %v, want %q", c.name, b, e, c.b)
		}
		if q, e := ask.Take(small(), c.b); !same(q, c.q) || e != api.OK {
			t.Errorf("%s: Take = %+v, %v, want %+v", c.name, q, e, c.q)
		}
	}
}

// wrong are bytes, and what Take says of them.
func wrong() []struct {
	name, b string
	e       api.Errno
} {
	long := "\x11" + sixteen + "g"
	set := "\xbf\xff"
	return []struct {
		name, b string
		e       api.Errno
	}{
		{"none", "", api.ErrForm},
		{"one pick alone", "\x00\x00", api.ErrForm},
		{"a pick too many", "\x00\x00\x00\x00\x00\x00", api.ErrForm},
		{"a byte too many", "\x00\x00\x00\x00\x00", api.ErrForm},
		{"another filter", "\x03\x00\x00\x00", api.ErrLimit},
		{"another filter, of the second", "\x00\x00\x80\x80", api.ErrLimit},
		{"no number", "\xff", api.ErrForm},
		{"a number in another form", "\x80\x00\x00\x00\x00", api.ErrForm},
		{"grouped by a tier beyond all", "\x00\x05\x00\x00", api.ErrLimit},
		{"within a tier beyond all", "\x01\x04\x00\x00\x00\x00\x00", api.ErrLimit},
		{"among a tier's beyond all", "\x02\x04\x00\x00\x00\x00", api.ErrLimit},
		{"within a lower end too long", "\x01\x00" + long + "\x00\x00\x00\x00", api.ErrLimit},
		{"within an upper end too long", "\x01\x00\x00" + long + "\x00\x00\x00", api.ErrLimit},
		{"within an end that is cut", "\x01\x00\x01", api.ErrForm},
		{"among more than 200", "\x02\x00\x80\xc9", api.ErrLimit},
		{"among far more", "\x02\x00" + set, api.ErrLimit},
		{"among 200 that are not there", "\x02\x00\x80\xc8", api.ErrForm},
		{"among what falls", "\x02\x00\x02\x00\x01b\x00\x01a\x00\x00\x00", api.ErrForm},
		{"among one twice", "\x02\x00\x02\x00\x01b\x01\x00\x00\x00\x00", api.ErrForm},
		{"among an empty one", "\x02\x00\x01\x00\x00\x00\x00\x00", api.ErrForm},
		{"among more that is shared", "\x00\x00\x02\x00\x02\x00\x01x\x00\x02xx\x00", api.ErrForm},

		{"grouped by a tier that is not there", "\x00\x02\x00\x00", api.ErrArg},
		{"grouped by the fourth tier", "\x00\x00\x00\x04", api.ErrArg},
		{"within a tier that is not there", "\x01\x01\x00\x00\x00\x00\x00", api.ErrArg},
		{"within the fourth tier", "\x00\x00\x01\x03\x00\x00\x00", api.ErrArg},
		{"among a tier's that is not there", "\x02\x03\x01\x00\x01a\x00\x00\x00", api.ErrArg},
		{"among no member", "\x02\x00\x01\x00\x01c\x00\x00\x00", api.ErrMember},
		{"among no member, grouped by no tier", "\x02\x00\x01\x00\x01c\x02\x00\x00", api.ErrMember},
		{"no tier, and then another form", "\x00\x02\x03\x00", api.ErrLimit},
		{"no tier, and then a byte too many", "\x00\x02\x00\x00\x00", api.ErrForm},
		{"no member, and then no end", "\x02\x00\x01\x00\x01c\x00\x00", api.ErrForm},
	}
}

func TestP35_2_Take(t *testing.T) {
	for _, c := range wrong() {
		if q, e := ask.Take(small(), c.b); len(q.Picks) != 0 || e != c.e {
			t.Errorf("%s: Take = %+v, %v, want %v", c.name, q, e, c.e)
		}
	}
}

// TestP35_2_Cut: no piece ahead of a query's end, and nothing longer, is one.
func TestP35_2_Cut(t *testing.T) {
	for _, c := range forms() {
		for i := range len(c.b) {
			if q, e := ask.Take(small(), c.b[:i]); len(q.Picks) != 0 || e != api.ErrForm {
				t.Errorf("%s: Take of %d bytes = %v, %v", c.name, i, q, e)
			}
		}
		if q, e := ask.Take(small(), c.b+"\x00"); len(q.Picks) != 0 || e != api.ErrForm {
			t.Errorf("%s: Take of a byte more = %v, %v", c.name, q, e)
		}
	}
}

// TestP35_2_Full: a set of 200, of a schema of the most dimensions and tiers.
func TestP35_2_Full(t *testing.T) {
	var all []string
	for i := range api.MaxMembers {
		all = append(all, fmt.Sprintf("member %09d", i))
	}
	one := make([]int, len(all))
	for i := range one {
		one[i] = i
	}
	var s api.Schema
	var q api.Query
	for i := range api.MaxDims {
		d := api.Dim{Name: fmt.Sprintf("d%d", i)}
		for k := range api.MaxTiers {
			tier := api.Tier{Name: fmt.Sprintf("t%d", k), Terms: all}
			if k < api.MaxTiers-1 {
				tier.Up = one
			}
			d.Tiers = append(d.Tiers, tier)
		}
		s.Dims = append(s.Dims, d)
		q.Picks = append(q.Picks, by(3-i%4, among(i%4, all...)))
	}
	s.Measures = []string{"m"}
	b, e := ask.Put(s, q)
	if e != api.OK {
		t.Fatalf("Put = %v", e)
	}
	if back, e := ask.Take(s, b); e != api.OK || !same(back, q) {
		t.Errorf("Take = %v", e)
	}
}

func TestP35_3_Total(t *testing.T) {
	if q := ask.Total(small()); !same(q, of(api.Pick{}, api.Pick{})) {
		t.Errorf("Total = %+v", q)
	}
	if q := ask.Total(api.Schema{}); len(q.Picks) != 0 {
		t.Errorf("Total of nothing = %+v", q)
	}
	if q := ask.Total(api.Schema{Dims: make([]api.Dim, 20)}); !same(q, of(make([]api.Pick, 20)...)) {
		t.Errorf("Total of twenty = %+v", q)
	}
	if b, e := ask.Put(small(), ask.Total(small())); b != "\x00\x00\x00\x00" || e != api.OK {
		t.Errorf("Put of Total = %q, %v", b, e)
	}
}

// steps are the second dimension's picks ahead of a step, and behind it.
type steps struct {
	name           string
	p              api.Pick
	rolled, driven api.Pick
}

// ways are of three tiers.
func ways() []steps {
	set := among(1, "p", "q")
	return []steps{
		{"not grouped", set, set, by(2, set)},
		{"by the finest", by(0, set), by(1, set), by(0, set)},
		{"by the middle one", by(1, set), by(2, set), by(0, set)},
		{"by the coarsest", by(2, set), set, by(1, set)},
		{"by one beyond", by(3, set), set, by(2, set)},
		{"by one far beyond", by(most, set), set, by(most-1, set)},
		{"by one below 0", by(-1, set), by(0, set), by(-1, set)},
		{"by two below 0", by(-2, set), set, by(-2, set)},
		{"by one far below 0", by(least, set), set, by(least, set)},
		{"within", by(1, within(0, "a", "z")), by(2, within(0, "a", "z")), by(0, within(0, "a", "z"))},
		{"what may not be", by(1, api.Pick{Filter: 77, Lo: sixteen + "g"}), by(2, api.Pick{Filter: 77, Lo: sixteen + "g"}), by(0, api.Pick{Filter: 77, Lo: sixteen + "g"})},
		{"not grouped, but by one", api.Pick{By: 1}, api.Pick{By: 1}, by(2, api.Pick{})},
	}
}

func TestP35_3_Steps(t *testing.T) {
	other := by(0, among(0, "a"))
	for _, c := range ways() {
		q := of(other, c.p)
		if got := ask.Roll(small(), q, 1); !same(got, of(other, c.rolled)) {
			t.Errorf("%s: Roll = %+v, want %+v", c.name, got.Picks, c.rolled)
		}
		if got := ask.Drill(small(), q, 1); !same(got, of(other, c.driven)) {
			t.Errorf("%s: Drill = %+v, want %+v", c.name, got.Picks, c.driven)
		}
	}
	// Of one tier.
	q := of(by(0, api.Pick{}), other)
	if got := ask.Roll(small(), q, 0); !same(got, of(api.Pick{}, other)) {
		t.Errorf("Roll = %+v", got)
	}
	if got := ask.Drill(small(), q, 0); !same(got, q) {
		t.Errorf("Drill = %+v", got)
	}
	if got := ask.Drill(small(), of(api.Pick{}, other), 0); !same(got, q) {
		t.Errorf("Drill = %+v", got)
	}
}

// TestP35_3_NoSuchDimension: of a dimension, or a pick, that there is not nothing is stepped.
func TestP35_3_NoSuchDimension(t *testing.T) {
	q := of(by(0, api.Pick{}), by(1, api.Pick{}), by(0, api.Pick{}))
	for _, i := range []int{-1, 2, 3, most, least} {
		if got := ask.Roll(small(), q, i); !same(got, q) {
			t.Errorf("Roll of %d = %+v", i, got)
		}
		if got := ask.Drill(small(), q, i); !same(got, q) {
			t.Errorf("Drill of %d = %+v", i, got)
		}
	}
	for _, q := range []api.Query{{}, of(by(0, api.Pick{}))} {
		if got := ask.Roll(small(), q, 1); !same(got, q) {
			t.Errorf("Roll of a pick that is not there = %+v", got)
		}
		if got := ask.Drill(small(), q, 1); !same(got, q) {
			t.Errorf("Drill of a pick that is not there = %+v", got)
		}
	}
}

// TestP35_3_NoTiers: of a dimension without tiers the coarsest is -1.
func TestP35_3_NoTiers(t *testing.T) {
	s := api.Schema{Dims: make([]api.Dim, 1)}
	for _, c := range []struct{ p, rolled, driven api.Pick }{
		{api.Pick{}, api.Pick{}, by(-1, api.Pick{})},
		{by(-1, api.Pick{}), api.Pick{}, by(-1, api.Pick{})},
		{by(0, api.Pick{}), api.Pick{}, by(0, api.Pick{})},
		{by(2, api.Pick{}), api.Pick{}, by(1, api.Pick{})},
		{by(-5, api.Pick{}), api.Pick{}, by(-5, api.Pick{})},
	} {
		if got := ask.Roll(s, of(c.p), 0); !same(got, of(c.rolled)) {
			t.Errorf("Roll of %+v = %+v, want %+v", c.p, got, c.rolled)
		}
		if got := ask.Drill(s, of(c.p), 0); !same(got, of(c.driven)) {
			t.Errorf("Drill of %+v = %+v, want %+v", c.p, got, c.driven)
		}
	}
}

// full is a query whose lists have spare room.
func full() api.Query {
	set := append(make([]string, 0, 9), "x", "y", "spare", "more")
	picks := append(make([]api.Pick, 0, 9), by(0, among(0, "a")), by(1, among(0, set[:2]...)), api.Pick{Lo: "spare"})
	picks[1].Set = set[:2]
	return api.Query{Picks: picks[:2]}
}

// TestP35_3_Memory: what comes of a step shares nothing with what was handed in, which is left as it was, its spare room too.
func TestP35_3_Memory(t *testing.T) {
	for name, step := range map[string]func(s api.Schema, q api.Query, i int) api.Query{"Roll": ask.Roll, "Drill": ask.Drill} {
		for _, i := range []int{-1, 0, 1, 2} {
			s, q := small(), full()
			next := step(s, q, i)
			want := step(small(), full(), i)
			for k := range next.Picks {
				for n := range next.Picks[k].Set {
					next.Picks[k].Set[n] = "turned"
				}
				next.Picks[k].Set = append(next.Picks[k].Set, "put behind")
				next.Picks[k].By = 77
			}
			next.Picks = append(next.Picks, api.Pick{Lo: "put behind"})
			if !same(q, full()) || q.Picks[:3][2].Lo != "spare" || q.Picks[1].Set[:3][2] != "spare" {
				t.Errorf("%s of %d changed what it was handed: %+v", name, i, q.Picks[:3])
			}
			next = step(s, q, i)
			for k := range q.Picks {
				for n := range q.Picks[k].Set {
					q.Picks[k].Set[n] = "turned"
				}
				q.Picks[k].By = 77
			}
			if !same(next, want) {
				t.Errorf("%s of %d shares what it was handed: %+v, want %+v", name, i, next, want)
			}
		}
	}
}

// TestP35_2_Memory: Put and Take leave what they are handed as it is; sets that are taken share nothing.
func TestP35_2_Memory(t *testing.T) {
	s, q := small(), full()
	b, e := ask.Put(s, q)
	if e != api.OK || !same(q, full()) || q.Picks[:3][2].Lo != "spare" || q.Picks[1].Set[:3][2] != "spare" || fmt.Sprint(s) != fmt.Sprint(small()) {
		t.Fatalf("Put = %v; the query is %+v", e, q.Picks)
	}
	first, _ := ask.Take(s, b)
	first.Picks[0].Set = append(first.Picks[0].Set, "put behind", "put behind")
	first.Picks[0].Set[0] = "turned"
	if !same(of(first.Picks[1]), of(q.Picks[1])) {
		t.Errorf("the sets share memory: %+v", first)
	}
	if second, _ := ask.Take(s, b); !same(second, q) {
		t.Errorf("Take again = %+v", second)
	}
}

// random is a query that may be asked.
func random(r *rand.Rand, s api.Schema) api.Query {
	var q api.Query
	ends := []string{"", "a", "p", "pp", "x", "y", "\xff", sixteen}
	for _, d := range s.Dims {
		tier := r.Intn(len(d.Tiers))
		var p api.Pick
		switch r.Intn(3) {
		case 0:
			p = within(tier, ends[r.Intn(len(ends))], ends[r.Intn(len(ends))])
		case 1:
			p = among(tier)
			for _, name := range d.Tiers[tier].Terms {
				if r.Intn(2) > 0 {
					p.Set = append(p.Set, name)
				}
			}
		}
		if r.Intn(2) > 0 {
			p = by(r.Intn(len(d.Tiers)), p)
		}
		q.Picks = append(q.Picks, p)
	}
	return q
}

func TestP35_4_Back(t *testing.T) {
	r := rand.New(rand.NewSource(35))
	for range 3000 {
		q := random(r, small())
		b, e := ask.Put(small(), q)
		if e != api.OK {
			t.Fatalf("Put(%+v) = %v", q, e)
		}
		if back, e := ask.Take(small(), b); e != api.OK || !same(back, q) {
			t.Fatalf("Take = %+v, %v, want %+v", back, e, q)
		}
		for i, p := range q.Picks {
			down := ask.Drill(small(), q, i)
			if e := ask.Check(small(), down); e != api.OK {
				t.Fatalf("Check of Drill(%+v) = %v", q, e)
			}
			if p.Group && p.By == 0 {
				if !same(down, q) {
					t.Fatalf("Drill(%+v) = %+v", q, down)
				}
			} else if up := ask.Roll(small(), down, i); !same(up, q) || same(down, q) {
				t.Fatalf("Roll(%+v) = %+v, want %+v", down, up, q)
			}
			if up := ask.Roll(small(), q, i); ask.Check(small(), up) != api.OK || same(up, q) == p.Group {
				t.Fatalf("Roll(%+v) = %+v", q, up)
			}
		}
	}
}

// TestP35_4_AnyBytes: of whatever bytes Take ends, and what it takes is put as these bytes.
func TestP35_4_AnyBytes(t *testing.T) {
	r := rand.New(rand.NewSource(354))
	taken := 0
	for range 40000 {
		text, _ := ask.Put(small(), random(r, small()))
		b := []byte(text)
		for range 1 + r.Intn(2) {
			b[r.Intn(len(b))] = byte(r.Intn(256) >> r.Intn(8))
		}
		q, e := ask.Take(small(), string(b))
		if e != api.OK {
			if len(q.Picks) != 0 {
				t.Fatalf("Take(%q) = %v, %v", b, q, e)
			}
			continue
		}
		taken++
		if again, e := ask.Put(small(), q); again != string(b) || e != api.OK {
			t.Fatalf("Take(%q) = %+v, whose Put is %q, %v", b, q, again, e)
		}
	}
	if taken < 1000 {
		t.Errorf("only %d were taken", taken)
	}
}
