package plan_test

import (
	"fmt"
	"math"
	"math/rand"
	"slices"
	"testing"

	"pithead/api"
	"pithead/plan"
	"pithead/schema"
)

const most, least = math.MaxInt64, math.MinInt64

// small is of a dimension of one tier, and one of three, in which members of one do not stand side by side.
func small() api.Schema {
	return api.Schema{Dims: []api.Dim{
		{Name: "d", Tiers: []api.Tier{{Name: "t", Terms: []string{"a", "b", "c"}}}},
		{Name: "e", Tiers: []api.Tier{
			{Name: "low", Terms: []string{"v", "w", "x", "y", "z"}, Up: []int{1, 0, 2, 0, 1}},
			{Name: "mid", Terms: []string{"p", "q", "r"}, Up: []int{0, 1, 0}},
			{Name: "top", Terms: []string{"l", "m"}},
		}},
	}, Measures: []string{"m"}}
}

// of is a query of picks.
func of(l ...api.Pick) api.Query { return api.Query{Picks: l} }

func within(tier int, lo, hi string) api.Pick {
	return api.Pick{Filter: api.Within, Tier: tier, Lo: lo, Hi: hi}
}

func among(tier int, set ...string) api.Pick {
	return api.Pick{Filter: api.Among, Tier: tier, Set: set}
}

// by is a pick, grouped by a tier.
func by(tier int, p api.Pick) api.Pick {
	p.Group, p.By = true, tier
	return p
}

// scan is one that goes through a tier.
func scan(tier int, take []int, into ...int) api.Scan {
	return api.Scan{Tier: tier, Take: take, Into: into}
}

// at are places.
func at(l ...int) []int { return l }

func same(a, b []api.Scan) bool {
	return slices.EqualFunc(a, b, func(a, b api.Scan) bool {
		return a.Tier == b.Tier && slices.Equal(a.Take, b.Take) && slices.Equal(a.Into, b.Into)
	})
}

var whole = api.Scan{Tier: -1}

func TestP36_1_Of(t *testing.T) {
	for _, c := range []struct {
		name string
		p    api.Pick // of the second dimension
		want api.Scan
	}{
		{"neither filtered nor grouped", api.Pick{}, whole},
		{"grouped by the finest", by(0, api.Pick{}), scan(0, at(0, 1, 2, 3, 4), 0, 1, 2, 3, 4)},
		{"grouped by the middle one", by(1, api.Pick{}), scan(1, at(0, 1, 2), 0, 1, 2)},
		{"grouped by the coarsest", by(2, api.Pick{}), scan(2, at(0, 1), 0, 1)},
		{"within", within(0, "w", "y"), scan(0, at(1, 2, 3))},
		{"within ends that are no members", within(0, "a", "xx"), scan(0, at(0, 1, 2))},
		{"within one", within(0, "x", "x"), scan(0, at(2))},
		{"within no end below", within(1, "", "p"), scan(1, at(0))},
		{"within ends that fall", within(0, "y", "w"), scan(0, nil)},
		{"within what is ahead of all", within(0, "", "a"), scan(0, nil)},
		{"within what is behind all", within(2, "n", "~"), scan(2, nil)},
		{"within what is between two", within(0, "wa", "wz"), scan(0, nil)},
		{"within no ends", within(0, "", ""), scan(0, nil)},
		{"within all", within(2, "", "\xff"), scan(2, at(0, 1))},
		{"within, grouped by the same", by(1, within(1, "q", "r")), scan(1, at(1, 2), 1, 2)},
		{"within the finest, grouped by a coarser one", by(1, within(0, "w", "y")), scan(0, at(1, 2, 3), 0, 2, 0)},
		{"within the finest, grouped by the coarsest", by(2, within(0, "v", "x")), scan(0, at(0, 1, 2), 1, 0, 0)},
		{"within a coarser one, grouped by the finest", by(0, within(1, "p", "q")), scan(0, at(0, 1, 3, 4), 0, 1, 3, 4)},
		{"within the coarsest, grouped by the finest", by(0, within(2, "l", "ll")), scan(0, at(1, 2, 3), 1, 2, 3)},
		{"within the coarsest, grouped by the middle one", by(1, within(2, "l", "l")), scan(1, at(0, 2), 0, 2)},
		{"within nothing, grouped", by(0, within(2, "z", "a")), scan(0, nil)},
		{"among none", among(0), scan(0, nil)},
		{"among none, grouped by a finer one", by(0, among(1)), scan(0, nil)},
		{"among some", among(0, "v", "y"), scan(0, at(0, 3))},
		{"among all", among(1, "p", "q", "r"), scan(1, at(0, 1, 2))},
		{"among the finest's, grouped by the coarsest", by(2, among(0, "v", "x", "z")), scan(0, at(0, 2, 4), 1, 0, 1)},
		{"among the middle one's, grouped by the finest", by(0, among(1, "p", "r")), scan(0, at(1, 2, 3), 1, 2, 3)},
		{"among the coarsest's, grouped by the middle one", by(1, among(2, "m")), scan(1, at(1), 1)},
	} {
		for _, first := range []struct {
			p    api.Pick
			want api.Scan
		}{{api.Pick{}, whole}, {by(0, among(0, "a", "c")), scan(0, at(0, 2), 0, 2)}} {
			if l, e := plan.Of(small(), of(first.p, c.p)); e != api.OK || !same(l, []api.Scan{first.want, c.want}) {
				t.Errorf("%s: Of = %+v, %v, want %+v", c.name, l, e, c.want)
			}
		}
	}
}

// TestP36_1_Errors: ask's Check's error, and nothing else.
func TestP36_1_Errors(t *testing.T) {
	twice := small()
	twice.Dims[1].Name = "d"
	for name, c := range map[string]struct {
		s api.Schema
		q api.Query
		e api.Errno
	}{
		"no schema":                      {api.Schema{}, api.Query{}, api.ErrLimit},
		"a schema that may not be":       {twice, of(api.Pick{Filter: 7}, api.Pick{}), api.ErrTwice},
		"no picks":                       {small(), api.Query{}, api.ErrArg},
		"a pick too many":                {small(), of(api.Pick{}, api.Pick{}, api.Pick{}), api.ErrArg},
		"another filter":                 {small(), of(by(0, api.Pick{}), api.Pick{Filter: 3}), api.ErrArg},
		"grouped by no tier":             {small(), of(by(1, api.Pick{}), api.Pick{}), api.ErrArg},
		"within an end that is too long": {small(), of(by(0, api.Pick{}), within(0, "", "0123456789abcdefg")), api.ErrLimit},
		"among what falls":               {small(), of(by(0, api.Pick{}), among(0, "x", "w")), api.ErrOrder},
		"among no member":                {small(), of(by(0, api.Pick{}), among(1, "x")), api.ErrMember},
	} {
		if l, e := plan.Of(c.s, c.q); len(l) != 0 || e != c.e {
			t.Errorf("%s: Of = %v, %v, want %v", name, l, e, c.e)
		}
		for _, keys := range [][]int{nil, {0}, {-1}, {0, 0, 0}} {
			if l, e := plan.Names(c.s, c.q, keys); len(l) != 0 || e != c.e {
				t.Errorf("%s: Names(%v) = %v, %v, want %v", name, keys, l, e, c.e)
			}
		}
	}
}

// finest is which members of the finest tier are let through, by their names; climb leads to a tier.
func climb(d api.Dim, tier, key int) int {
	for k := range tier {
		key = d.Tiers[k].Up[key]
	}
	return key
}

func passes(d api.Dim, p api.Pick, key int) bool {
	name := d.Tiers[p.Tier].Terms[climb(d, p.Tier, key)]
	switch p.Filter {
	case api.Within:
		return name >= p.Lo && name <= p.Hi
	case api.Among:
		return slices.Contains(p.Set, name)
	}
	return true
}

// random is a schema of some dimensions, and a query that may be asked of it.
func random(r *rand.Rand) (api.Schema, api.Query) {
	s := api.Schema{Measures: []string{"m"}}
	var q api.Query
	for i := range 1 + r.Intn(3) {
		d := api.Dim{Name: fmt.Sprintf("d%d", i)}
		sizes := []int{1 + r.Intn(9)}
		for range r.Intn(4) {
			sizes = append(sizes, 1+r.Intn(sizes[len(sizes)-1]))
		}
		for k, n := range sizes {
			tier := api.Tier{Name: fmt.Sprintf("t%d", k)}
			for i := range n {
				tier.Terms = append(tier.Terms, fmt.Sprintf("%c%d", 'a'+k, i))
				if k+1 < len(sizes) {
					tier.Up = append(tier.Up, i%sizes[k+1])
				}
			}
			r.Shuffle(len(tier.Up), func(i, j int) { tier.Up[i], tier.Up[j] = tier.Up[j], tier.Up[i] })
			d.Tiers = append(d.Tiers, tier)
		}
		s.Dims = append(s.Dims, d)
		q.Picks = append(q.Picks, pick(r, d))
	}
	return s, q
}

func pick(r *rand.Rand, d api.Dim) api.Pick {
	tier := r.Intn(len(d.Tiers))
	var p api.Pick
	switch r.Intn(3) {
	case 0:
		p = within(tier, fmt.Sprintf("%c%d", 'a'+tier, r.Intn(9)), fmt.Sprintf("%c%d", 'a'+tier, r.Intn(10)))
	case 1:
		p = among(tier)
		for _, name := range d.Tiers[tier].Terms {
			if r.Intn(2) > 0 {
				p.Set = append(p.Set, name)
			}
		}
	}
	if r.Intn(2) > 0 {
		p = by(r.Intn(len(d.Tiers)), p)
	}
	return p
}

// wantScan: a scan lets just those members of the finest tier through that a pick does, each into the group in which it stands.
func wantScan(t *testing.T, d api.Dim, p api.Pick, s api.Scan) {
	t.Helper()
	if p.Filter == api.Any && !p.Group {
		if s.Tier != -1 || len(s.Take) > 0 || len(s.Into) > 0 {
			t.Fatalf("%+v: %+v", p, s)
		}
		return
	}
	tier := len(d.Tiers)
	if p.Filter != api.Any {
		tier = p.Tier
	}
	if p.Group && p.By < tier {
		tier = p.By
	}
	if s.Tier != tier || !slices.IsSorted(s.Take) || p.Group && len(s.Into) != len(s.Take) || !p.Group && len(s.Into) > 0 {
		t.Fatalf("%+v: %+v, want the tier %d", p, s, tier)
	}
	for key := range d.Tiers[0].Terms {
		i := slices.Index(s.Take, climb(d, tier, key))
		if (i >= 0) != passes(d, p, key) {
			t.Fatalf("%+v: %+v; the member %d", p, s, key)
		}
		if i >= 0 && p.Group && s.Into[i] != climb(d, p.By, key) {
			t.Fatalf("%+v: %+v; the member %d falls elsewhere", p, s, key)
		}
	}
	if len(slices.Compact(slices.Clone(s.Take))) != len(s.Take) {
		t.Fatalf("%+v: %+v takes one twice", p, s)
	}
}

// TestP36_4_Random: what Of tells lets through what the query's names do, and may go through the schema's cubes.
func TestP36_4_Random(t *testing.T) {
	r := rand.New(rand.NewSource(36))
	for range 4000 {
		s, q := random(r)
		before := fmt.Sprint(s, q)
		l, e := plan.Of(s, q)
		if e != api.OK || len(l) != len(s.Dims) {
			t.Fatalf("Of(%+v) = %v, %v", q, l, e)
		}
		for i, p := range q.Picks {
			wantScan(t, s.Dims[i], p, l[i])
		}
		if e := plan.Check(schema.Shape(s), l...); e != api.OK {
			t.Fatalf("Check(%+v) = %v", l, e)
		}
		if fmt.Sprint(s, q) != before {
			t.Fatalf("Of changed %s", before)
		}
	}
}

// TestP36_1_Memory: scans share nothing with one another, nor Take with Into.
func TestP36_1_Memory(t *testing.T) {
	q := of(by(0, api.Pick{}), by(0, within(0, "v", "z")))
	l, _ := plan.Of(small(), q)
	want, _ := plan.Of(small(), q)
	l[0].Take = append(l[0].Take, 77, 77)
	l[0].Into[0], l[0].Take[0] = 55, 66
	l[1].Take[0] = 44
	l[1].Take = append(l[1].Take, 33)
	if l[0].Into[1] != 1 || l[1].Into[0] != 0 || !slices.Equal(l[1].Into, want[1].Into) {
		t.Errorf("the scans share memory: %+v", l)
	}
	if again, _ := plan.Of(small(), q); !same(again, want) {
		t.Errorf("Of again = %+v", again)
	}
}

func TestP36_2_Names(t *testing.T) {
	both, one, none := of(by(0, api.Pick{}), by(1, among(2, "l"))), of(api.Pick{}, by(2, within(0, "", "~"))), of(among(0, "a"), api.Pick{})
	for _, c := range []struct {
		name string
		q    api.Query
		keys []int
		want []string
		e    api.Errno
	}{
		{"both", both, at(0, 0), []string{"a", "p"}, api.OK},
		{"the last ones", both, at(2, 2), []string{"c", "r"}, api.OK},
		{"what the query does not let through", both, at(1, 1), []string{"b", "q"}, api.OK},
		{"one", one, at(1), []string{"m"}, api.OK},
		{"none", none, nil, nil, api.OK},
		{"none, an empty list", none, []int{}, nil, api.OK},
		{"no key", both, nil, nil, api.ErrMember},
		{"a key too few", both, at(0), nil, api.ErrMember},
		{"a key too many", both, at(0, 0, 0), nil, api.ErrArg},
		{"a key below 0 too many", one, at(0, -1), nil, api.ErrArg},
		{"a key where none is grouped", none, at(0), nil, api.ErrArg},
		{"no member", both, at(3, 0), nil, api.ErrMember},
		{"no member of that tier", both, at(0, 3), nil, api.ErrMember},
		{"a member of a finer tier", one, at(2), nil, api.ErrMember},
		{"one below 0", both, at(0, -1), nil, api.ErrMember},
		{"one far beyond", both, at(most, 0), nil, api.ErrMember},
		{"one far below 0", both, at(0, least), nil, api.ErrMember},
		{"no member, and a key too many", both, at(0, 3, 0), nil, api.ErrMember},
		{"no member, and a key too few", both, at(3), nil, api.ErrMember},
	} {
		before := slices.Clone(c.keys)
		if l, e := plan.Names(small(), c.q, c.keys); !slices.Equal(l, c.want) || e != c.e {
			t.Errorf("%s: Names = %v, %v, want %v, %v", c.name, l, e, c.want, c.e)
		}
		if !slices.Equal(before, c.keys) {
			t.Errorf("%s: Names changed the keys", c.name)
		}
	}
}

func TestP36_2_Width(t *testing.T) {
	for _, c := range []struct {
		q    api.Query
		want int
	}{
		{api.Query{}, 0},
		{of(api.Pick{}, among(0, "a")), 0},
		{of(by(0, api.Pick{}), api.Pick{By: 1}), 1},
		{of(api.Pick{Filter: 77}, by(-3, within(9, "b", "a"))), 1},
		{of(by(0, api.Pick{}), by(2, among(1))), 2},
		{of(slices.Repeat([]api.Pick{by(0, api.Pick{})}, 500)...), 500},
	} {
		if n := plan.Width(c.q); n != c.want {
			t.Errorf("Width(%+v) = %d, want %d", c.q, n, c.want)
		}
	}
}

// checkCase is a scan of the second dimension, of five, three and two members, and what Check says of it.
type checkCase struct {
	name string
	s    api.Scan
	e    api.Errno
}

func checkCases() []checkCase {
	return []checkCase{
		{"all", whole, api.OK},
		{"all, of empty lists", api.Scan{Tier: -1, Take: []int{}, Into: []int{}}, api.OK},
		{"none", scan(0, nil), api.OK},
		{"all members", scan(0, at(0, 1, 2, 3, 4)), api.OK},
		{"all members of the coarsest tier", scan(2, at(0, 1), 0, 1), api.OK},
		{"into one group", scan(1, at(0, 2), 7, 7), api.OK},
		{"into far groups that fall", scan(1, at(0, 1, 2), most, 3, 0), api.OK},
		{"a tier below all", api.Scan{Tier: -2}, api.ErrArg},
		{"a tier far below", api.Scan{Tier: least}, api.ErrArg},
		{"all, and a member", scan(-1, at(0)), api.ErrArg},
		{"all, and a group", scan(-1, nil, 0), api.ErrArg},
		{"all, and no member", scan(-1, at(77)), api.ErrArg},
		{"a tier below all, and no member", scan(-2, at(77), 0), api.ErrArg},
		{"a tier beyond", scan(3, at(0)), api.ErrArg},
		{"a tier far beyond", scan(most, nil), api.ErrArg},
		{"a tier beyond, and no member", scan(3, at(-1)), api.ErrArg},
		{"a group of none", scan(0, nil, 0), api.ErrArg},
		{"a group too few", scan(0, at(0, 1), 0), api.ErrArg},
		{"a group too many", scan(0, at(0, 1), 0, 1, 2), api.ErrArg},
		{"a group too many, and no member", scan(0, at(9), 0, 1), api.ErrArg},
		{"one beyond", scan(1, at(0, 3)), api.ErrMember},
		{"one of the finer tier alone", scan(2, at(2)), api.ErrMember},
		{"one far beyond", scan(0, at(most)), api.ErrMember},
		{"one below 0", scan(0, at(-1, 0)), api.ErrMember},
		{"one far below 0 that falls", scan(0, at(2, least)), api.ErrMember},
		{"one twice", scan(0, at(1, 1)), api.ErrOrder},
		{"what falls", scan(0, at(0, 3, 2)), api.ErrOrder},
		{"what falls, and then no member", scan(0, at(3, 2, 9)), api.ErrOrder},
		{"no member, and then what falls", scan(0, at(3, 9, 2)), api.ErrMember},
		{"a group below 0", scan(0, at(0, 1), 0, -1), api.ErrArg},
		{"a group far below 0", scan(0, at(4), least), api.ErrArg},
		{"a group below 0, and then no member", scan(0, at(0, 9), -1, 0), api.ErrArg},
		{"no member, and a group below 0", scan(0, at(9), -1), api.ErrMember},
		{"what falls, into a group below 0", scan(0, at(1, 0), 0, -1), api.ErrOrder},
		{"a group below 0, and then what falls", scan(0, at(1, 0), -1, 0), api.ErrArg},
	}
}

func TestP36_3_Check(t *testing.T) {
	x := schema.Shape(small())
	for _, c := range checkCases() {
		if e := plan.Check(x, whole, c.s); e != c.e {
			t.Errorf("%s: Check = %v, want %v", c.name, e, c.e)
		}
		// The first scan that may not be tells.
		if e := plan.Check(x, scan(0, at(2, 1)), c.s); e != api.ErrOrder {
			t.Errorf("%s, behind another: Check = %v", c.name, e)
		}
		if e := plan.Check(x, scan(0, at(1, 2), 5, 5), c.s); e != c.e {
			t.Errorf("%s, behind a good one: Check = %v, want %v", c.name, e, c.e)
		}
		turned := api.Shape{Sizes: [][]int{x.Sizes[1], x.Sizes[0]}}
		if e := plan.Check(turned, c.s, scan(0, at(2), -1)); e != c.e && (c.e != api.OK || e != api.ErrArg) {
			t.Errorf("%s, ahead of another: Check = %v, want %v", c.name, e, c.e)
		}
		for _, l := range [][]api.Scan{nil, {c.s}, {whole, c.s, whole}} {
			if e := plan.Check(x, l...); e != api.ErrArg {
				t.Errorf("%s: Check of %d scans = %v", c.name, len(l), e)
			}
		}
	}
}

// TestP36_3_Shapes: of shapes made by hand.
func TestP36_3_Shapes(t *testing.T) {
	for _, c := range []struct {
		sizes [][]int
		l     []api.Scan
		e     api.Errno
	}{
		{nil, nil, api.OK},
		{nil, []api.Scan{whole}, api.ErrArg},
		{[][]int{nil}, []api.Scan{whole}, api.OK},
		{[][]int{nil}, []api.Scan{scan(0, nil)}, api.ErrArg},
		{[][]int{{0}}, []api.Scan{scan(0, nil)}, api.OK},
		{[][]int{{0}}, []api.Scan{scan(0, at(0))}, api.ErrMember},
		{[][]int{{least}}, []api.Scan{scan(0, at(0))}, api.ErrMember},
		{[][]int{{1, 300}}, []api.Scan{scan(1, at(299))}, api.OK},
		{[][]int{{1, most}}, []api.Scan{scan(1, at(0, most-1))}, api.OK},
		{make([][]int, 40), slices.Repeat([]api.Scan{whole}, 40), api.OK},
	} {
		if e := plan.Check(api.Shape{Sizes: c.sizes}, c.l...); e != c.e {
			t.Errorf("Check(%v, %+v) = %v, want %v", c.sizes, c.l, e, c.e)
		}
	}
}
