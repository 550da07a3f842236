package travel_test

import (
	"fmt"
	"math"
	"math/rand"
	"slices"
	"strings"
	"testing"

	"pithead/agg"
	"pithead/api"
	"pithead/arena"
	"pithead/build"
	"pithead/cellcode"
	"pithead/device"
	"pithead/fact"
	"pithead/ingest"
	"pithead/node"
	"pithead/pager"
	"pithead/schema"
	"pithead/source"
	"pithead/stream"
	"pithead/travel"
)

const most, least = math.MaxInt64, math.MinInt64

var whole = api.Scan{Tier: -1}

// scan is one that goes through a tier.
func scan(tier int, take []int, into ...int) api.Scan {
	return api.Scan{Tier: tier, Take: take, Into: into}
}

// at are places.
func at(l ...int) []int { return l }

// up are so many numbers, from 0 on.
func up(n int) []int {
	var l []int
	for i := range n {
		l = append(l, i)
	}
	return l
}

// sum is the aggregate of a row of one measure.
func sum(v int64) api.Agg {
	a, _ := agg.Of(v)
	return a
}

// sums is that of several rows.
func sums(values ...int64) api.Agg {
	var all api.Agg
	for _, v := range values {
		all, _ = agg.Join(all, sum(v))
	}
	return all
}

func one(v int64, keys ...int) api.Fact { return api.Fact{Keys: keys, Agg: sum(v)} }

// group is a row of an answer, in places; named is one in names.
func group(a api.Agg, keys ...int) api.Fact { return api.Fact{Keys: keys, Agg: a} }

func named(a api.Agg, keys ...string) api.Group { return api.Group{Keys: keys, Agg: a} }

func sameGroups(a, b []api.Group) bool {
	return slices.EqualFunc(a, b, func(a, b api.Group) bool { return slices.Equal(a.Keys, b.Keys) && a.Agg == b.Agg })
}

// small is of a dimension of one tier, and one of three, in which members of one do not stand side by side.
func small() api.Schema {
	return api.Schema{Dims: []api.Dim{
		{Name: "d", Tiers: []api.Tier{{Name: "t", Terms: []string{"a", "b", "c"}}}},
		{Name: "e", Tiers: []api.Tier{
			{Name: "low", Terms: []string{"v", "w", "x", "y", "z"}, Up: []int{1, 0, 2, 0, 1}},
			{Name: "mid", Terms: []string{"p", "q", "r"}, Up: []int{0, 1, 0}},
			{Name: "top", Terms: []string{"l", "m"}},
		}},
	}, Measures: []string{"m"}}
}

// facts are of small: of a at v, w, y; of c at w and z.
func facts() []api.Fact {
	return []api.Fact{one(1, 0, 0), one(2, 0, 1), one(4, 0, 3), one(8, 2, 1), one(16, 2, 4)}
}

func built(t *testing.T, s api.Schema, l ...api.Fact) *arena.Arena {
	t.Helper()
	a, e := build.Build(s, api.MaxNodes, l...)
	if e != api.OK {
		t.Fatalf("Build = %v", e)
	}
	return a
}

func loaded(t *testing.T, x api.Shape, l ...api.Node) *arena.Arena {
	t.Helper()
	a, e := arena.Load(x, l...)
	if e != api.OK {
		t.Fatalf("Load = %v", e)
	}
	return a
}

// paged is a pager whose version has these nodes' bytes.
func paged(t *testing.T, nodes string, top int) *pager.Pager {
	t.Helper()
	d, _ := device.New(api.MaxSectors)
	p, _ := pager.Open(d)
	if e := p.Publish("c", nodes, top); e != api.OK {
		t.Fatalf("Publish = %v", e)
	}
	return p
}

// sources are an arena's nodes in memory, and on pages.
func sources(t *testing.T, a *arena.Arena) map[string]*source.Source {
	t.Helper()
	l := map[string]*source.Source{"in memory": source.Arena(a)}
	if text, top, e := stream.Write(a, api.MaxText); e == api.OK {
		l["on pages"] = source.Pager(paged(t, text, top), a.Shape())
	}
	return l
}

// wantRun: scans through an arena, in memory and on pages, are answered so.
func wantRun(t *testing.T, name string, a *arena.Arena, n int, l []api.Scan, want []api.Fact, wantErr api.Errno) {
	t.Helper()
	before := fmt.Sprint(l)
	for where, src := range sources(t, a) {
		if got, e := travel.Run(src, a.Shape(), n, l...); e != wantErr || !fact.Same(got, want) {
			t.Errorf("%s, %s: Run = %v, %v, want %v, %v", name, where, got, e, want, wantErr)
		}
	}
	if fmt.Sprint(l) != before {
		t.Errorf("%s: the scans were changed", name)
	}
}

func TestP39_1_Run(t *testing.T) {
	a := built(t, small(), facts()...)
	for _, c := range []struct {
		name string
		l    []api.Scan
		want []api.Fact
	}{
		{"all", []api.Scan{whole, whole}, []api.Fact{group(sums(1, 2, 4, 8, 16))}},
		{"a point", []api.Scan{scan(0, at(2)), scan(0, at(1))}, []api.Fact{group(sum(8))}},
		{"a point in a group", []api.Scan{scan(0, at(2), 7), scan(0, at(1), 9)}, []api.Fact{group(sum(8), 7, 9)}},
		{"a member that has none", []api.Scan{scan(0, at(1)), whole}, nil},
		{"a point that has none", []api.Scan{scan(0, at(2)), scan(0, at(0))}, nil},
		{"some that have none", []api.Scan{scan(0, at(0, 1, 2)), scan(0, at(0, 2))}, []api.Fact{group(sum(1))}},
		{"each of the first", []api.Scan{scan(0, at(0, 1, 2), 0, 1, 2), whole}, []api.Fact{group(sums(1, 2, 4), 0), group(sums(8, 16), 2)}},
		{"each of the second", []api.Scan{whole, scan(0, up(5), up(5)...)}, []api.Fact{group(sum(1), 0), group(sums(2, 8), 1), group(sum(4), 3), group(sum(16), 4)}},
		{"each of the middle tier", []api.Scan{whole, scan(1, at(0, 1, 2), 0, 1, 2)}, []api.Fact{group(sums(2, 4, 8), 0), group(sums(1, 16), 1)}},
		{"each of the coarsest tier", []api.Scan{scan(0, at(0)), scan(2, at(0, 1), 0, 1)}, []api.Fact{group(sums(2, 4), 0), group(sum(1), 1)}},
		{"both", []api.Scan{scan(0, at(0, 2), 0, 2), scan(1, at(0, 1), 0, 1)}, []api.Fact{group(sums(2, 4), 0, 0), group(sum(1), 0, 1), group(sum(8), 2, 0), group(sum(16), 2, 1)}},
		{"into one group", []api.Scan{scan(0, at(0, 2), 3, 3), whole}, []api.Fact{group(sums(1, 2, 4, 8, 16), 3)}},
		{"into groups that fall", []api.Scan{scan(0, at(0, 2), most, 0), whole}, []api.Fact{group(sums(8, 16), 0), group(sums(1, 2, 4), most)}},
		{"into crossed groups", []api.Scan{scan(0, at(0, 2), 5, 4), scan(0, up(5), 1, 0, 1, 0, 1)}, []api.Fact{group(sum(8), 4, 0), group(sum(16), 4, 1), group(sums(2, 4), 5, 0), group(sum(1), 5, 1)}},
		{"without groups", []api.Scan{scan(0, at(0, 2)), scan(0, at(1, 4))}, []api.Fact{group(sums(2, 8, 16))}},
		{"the second one's groups alone", []api.Scan{scan(0, at(0, 2)), scan(0, at(1, 4), 1, 4)}, []api.Fact{group(sums(2, 8), 1), group(sum(16), 4)}},
	} {
		wantRun(t, c.name, a, api.MaxFacts, c.l, c.want, api.OK)
		wantRun(t, c.name+", just as many", a, len(c.want), c.l, c.want, api.OK)
		if len(c.want) > 0 {
			wantRun(t, c.name+", one less", a, len(c.want)-1, c.l, nil, api.ErrRows)
		}
	}
}

// TestP39_1_Check: plan's Check's error, ahead of rows's New's, ahead of where there is nothing.
func TestP39_1_Check(t *testing.T) {
	x := schema.Shape(small())
	full, empty := source.Arena(built(t, small(), facts()...)), source.Arena(built(t, small()))
	for _, src := range []*source.Source{full, empty, nil, {}} {
		for name, c := range map[string]struct {
			most int
			l    []api.Scan
			e    api.Errno
		}{
			"no scans":                        {9, nil, api.ErrArg},
			"a scan too few":                  {9, []api.Scan{whole}, api.ErrArg},
			"a scan too many":                 {-1, []api.Scan{whole, whole, whole}, api.ErrArg},
			"a tier below all":                {9, []api.Scan{{Tier: -2}, whole}, api.ErrArg},
			"no such tier":                    {9, []api.Scan{scan(1, nil), whole}, api.ErrArg},
			"no such member":                  {-1, []api.Scan{whole, scan(1, at(3))}, api.ErrMember},
			"members that fall":               {4001, []api.Scan{whole, scan(0, at(3, 2))}, api.ErrOrder},
			"a group below 0":                 {9, []api.Scan{scan(0, nil), scan(0, at(2), -1)}, api.ErrArg},
			"most below 0":                    {-1, []api.Scan{whole, whole}, api.ErrArg},
			"most beyond":                     {4001, []api.Scan{whole, whole}, api.ErrArg},
			"most far beyond, taking nothing": {most, []api.Scan{scan(0, nil), whole}, api.ErrArg},
		} {
			if l, e := travel.Run(src, x, c.most, c.l...); len(l) != 0 || e != c.e {
				t.Errorf("%s: Run = %v, %v, want %v", name, l, e, c.e)
			}
		}
	}
	if full.Reads()+empty.Reads() != 0 {
		t.Error("nodes were asked for")
	}
}

// TestP39_1_Nothing: without a top, where nothing is taken, and without scans there is nothing, and no node is asked for.
func TestP39_1_Nothing(t *testing.T) {
	x := schema.Shape(small())
	all := []api.Scan{whole, whole}
	blank, _ := device.New(16)
	p, _ := pager.Open(blank)
	for name, src := range map[string]*source.Source{
		"nil": nil, "plain": {}, "an arena without nodes": source.Arena(built(t, small())), "no arena": source.Arena(nil),
		"no pager": source.Pager(nil, x), "no version": source.Pager(p, x), "a version without nodes": source.Pager(paged(t, "", 0), x),
	} {
		for _, n := range []int{0, 9} {
			if l, e := travel.Run(src, x, n, all...); len(l) != 0 || e != api.OK {
				t.Errorf("%s: Run = %v, %v", name, l, e)
			}
		}
		if src.Reads() != 0 {
			t.Errorf("%s: %d reads", name, src.Reads())
		}
	}
	full := source.Arena(built(t, small(), facts()...))
	bad := source.Pager(paged(t, "\xff", 0), x)
	for _, src := range []*source.Source{full, bad} {
		for _, l := range [][]api.Scan{{scan(0, nil), whole}, {whole, scan(2, nil)}, {scan(0, at(0), 0), scan(0, at())}} {
			if got, e := travel.Run(src, x, 9, l...); len(got) != 0 || e != api.OK {
				t.Errorf("Run(%v) = %v, %v", l, got, e)
			}
		}
		if got, e := travel.Run(src, api.Shape{}, 9); len(got) != 0 || e != api.OK {
			t.Errorf("Run without scans = %v, %v", got, e)
		}
		if src.Reads() != 0 {
			t.Errorf("%d reads", src.Reads())
		}
	}
}

// TestP39_1_Width: more than sixteen groups a way are told by rows.
func TestP39_1_Width(t *testing.T) {
	x := api.Shape{Measures: 1}
	var l []api.Scan
	for range 17 {
		x.Sizes = append(x.Sizes, []int{1})
		l = append(l, scan(0, at(0), 0))
	}
	src := source.Pager(paged(t, "\x00", 0), x)
	if got, e := travel.Run(src, x, 9, l...); len(got) != 0 || e != api.ErrArg || src.Reads() != 0 {
		t.Errorf("Run = %v, %v, %d reads", got, e, src.Reads())
	}
	l[3] = scan(0, at(0))
	if got, e := travel.Run(src, x, 9, l...); len(got) != 0 || e != api.ErrCorrupt || src.Reads() != 1 {
		t.Errorf("Run = %v, %v, %d reads", got, e, src.Reads())
	}
	// Sixteen are a way's.
	s := api.Schema{Measures: []string{"m"}}
	for i := range 16 {
		s.Dims = append(s.Dims, api.Dim{Name: string(rune('a' + i)), Tiers: []api.Tier{{Name: "t", Terms: []string{"a", "b"}}}})
	}
	var into []int
	l = nil
	for i := range 16 {
		into = append(into, i*i)
		l = append(l, scan(0, at(0, 1), i*i, 500))
	}
	wantRun(t, "sixteen", built(t, s, one(5, make([]int, 16)...)), 1, l, []api.Fact{group(sum(5), into...)}, api.OK)
}

// mid is a node of a dimension ahead of the last one, of one tier, whose cells lead there.
func mid(dim, all int, children ...int) api.Node {
	n := api.Node{Dim: dim, All: api.Cell{Child: all}, Lists: [][]api.Cell{nil}}
	for key, child := range children {
		n.Lists[0] = append(n.Lists[0], api.Cell{Key: key, Child: child})
	}
	return n
}

// leaf is a node of the last dimension, of one tier.
func leaf(dim int, all int64, values ...int64) api.Node {
	n := api.Node{Dim: dim, All: api.Cell{Agg: sum(all)}, Lists: [][]api.Cell{nil}}
	for key, v := range values {
		n.Lists[0] = append(n.Lists[0], api.Cell{Key: key, Agg: sum(v)})
	}
	return n
}

// TestP39_1_AsTheyStand: what an arena by hand tells is answered, whatever its cells of all and of members have to do with one another.
func TestP39_1_AsTheyStand(t *testing.T) {
	x := api.Shape{Sizes: [][]int{{3}, {2}}, Measures: 1}
	a := loaded(t, x, leaf(1, 100, 1, 2), leaf(1, 200, 4), mid(0, 1, 0, 0, 1))
	wantRun(t, "all of all", a, 9, []api.Scan{whole, whole}, []api.Fact{group(sum(200))}, api.OK)
	wantRun(t, "members of all", a, 9, []api.Scan{whole, scan(0, at(0, 1))}, []api.Fact{group(sum(4))}, api.OK)
	wantRun(t, "all of members", a, 9, []api.Scan{scan(0, at(0, 1, 2), 0, 1, 2), whole}, []api.Fact{group(sum(100), 0), group(sum(100), 1), group(sum(200), 2)}, api.OK)
	wantRun(t, "members of members", a, 9, []api.Scan{scan(0, at(0, 1, 2)), scan(0, at(0, 1), 0, 1)}, []api.Fact{group(sums(1, 1, 4), 0), group(sums(2, 2), 1)}, api.OK)
}

// text is nodes' bytes, one behind the other, and where each begins.
func text(t *testing.T, x api.Shape, nodes ...func(begins []int) api.Node) (string, []int) {
	t.Helper()
	var b strings.Builder
	var begins []int
	for _, n := range nodes {
		s, e := cellcode.Put(x, n(begins))
		if e != api.OK {
			t.Fatalf("Put = %v", e)
		}
		begins = append(begins, b.Len())
		b.WriteString(s)
	}
	return b.String(), begins
}

// is is a node that leads nowhere, as text asks for it.
func is(n api.Node) func([]int) api.Node { return func([]int) api.Node { return n } }

// TestP39_1_Corrupt: a node that is none, or of another dimension or shape.
func TestP39_1_Corrupt(t *testing.T) {
	x := api.Shape{Sizes: [][]int{{3}, {3}, {2}}, Measures: 1}
	skips := func(b []int) api.Node { return mid(0, b[0], b[0]) }
	stays := func(b []int) api.Node { return mid(0, b[1], b[1]) }
	middle := func(b []int) api.Node { return mid(1, b[0], b[0]) }
	inside := func(b []int) api.Node { return mid(0, b[1]+1, b[1]+1) }
	for name, nodes := range map[string][]func([]int) api.Node{
		"a dimension is skipped":      {is(leaf(2, 1, 1)), skips},
		"one of its own dimension":    {is(leaf(2, 1, 1)), skips, stays},
		"the top one is of another":   {is(leaf(2, 1, 1)), middle},
		"the top one is of the last":  {is(leaf(2, 1, 1))},
		"none begins there":           {is(leaf(2, 1, 1)), middle, inside},
		"the middle one leads beyond": {is(leaf(2, 1, 1)), is(mid(1, 5000, 5000)), stays},
	} {
		s, begins := text(t, x, nodes...)
		p := paged(t, s, begins[len(begins)-1])
		for _, l := range [][]api.Scan{{whole, whole, whole}, {scan(0, at(0)), whole, whole}, {scan(0, at(0, 1, 2), 0, 1, 2), scan(0, at(0), 0), scan(0, at(0), 0)}} {
			src := source.Pager(p, x)
			if got, e := travel.Run(src, x, 9, l...); len(got) != 0 || e != api.ErrCorrupt {
				t.Errorf("%s: Run(%v) = %v, %v", name, l, got, e)
			}
			// Where the way does not lead, it is not told.
			if l[0].Tier < 0 || len(begins) < 3 {
				continue
			}
			if got, e := travel.Run(src, x, 9, scan(0, at(1, 2)), whole, whole); len(got) != 0 || e != api.OK {
				t.Errorf("%s: Run past it = %v, %v", name, got, e)
			}
		}
	}
}

// TestP39_1_OtherShape: of another shape than the nodes are of.
func TestP39_1_OtherShape(t *testing.T) {
	a := built(t, small(), one(1, 2, 4))
	for name, c := range map[string]struct {
		x api.Shape
		e api.Errno
	}{
		"its own":             {api.Shape{Sizes: [][]int{{3}, {5, 3, 2}}, Measures: 1}, api.OK},
		"of more members":     {api.Shape{Sizes: [][]int{{200}, {6, 4, 3}}, Measures: 1}, api.OK},
		"of fewer members":    {api.Shape{Sizes: [][]int{{2}, {5, 3, 2}}, Measures: 1}, api.ErrCorrupt},
		"of fewer at the end": {api.Shape{Sizes: [][]int{{3}, {4, 3, 2}}, Measures: 1}, api.ErrCorrupt},
		"of a tier more":      {api.Shape{Sizes: [][]int{{3, 1}, {5, 3, 2}}, Measures: 1}, api.ErrCorrupt},
		"of a tier less":      {api.Shape{Sizes: [][]int{{3}, {5, 3}}, Measures: 1}, api.ErrCorrupt},
		"of no tier":          {api.Shape{Sizes: [][]int{{3}, nil}, Measures: 1}, api.ErrCorrupt},
		"of a further measure, of which all is 0": {api.Shape{Sizes: [][]int{{3}, {5, 3, 2}}, Measures: 2}, api.OK},
		"of no measure":        {api.Shape{Sizes: [][]int{{3}, {5, 3, 2}}}, api.ErrCorrupt},
		"of measures below 0":  {api.Shape{Sizes: [][]int{{3}, {5, 3, 2}}, Measures: -1}, api.ErrCorrupt},
		"of a dimension more":  {api.Shape{Sizes: [][]int{{3}, {5, 3, 2}, {1}}, Measures: 1}, api.ErrCorrupt},
		"of a dimension alone": {api.Shape{Sizes: [][]int{{3}}, Measures: 1}, api.ErrCorrupt},
	} {
		l := slices.Repeat([]api.Scan{whole}, len(c.x.Sizes))
		got, e := travel.Run(source.Arena(a), c.x, 9, l...)
		if e != c.e || (len(got) != 0) != (e == api.OK) {
			t.Errorf("%s: Run = %v, %v, want %v", name, got, e, c.e)
		}
	}
}

// TestP39_1_Down: the source's error, as it is.
func TestP39_1_Down(t *testing.T) {
	a := built(t, small(), facts()...)
	s, top, _ := stream.Write(a, api.MaxText)
	d, _ := device.New(99)
	p, _ := pager.Open(d)
	p.Publish("c", s, top)
	d.Cut(nil, 0, 0)
	src := source.Pager(p, a.Shape())
	if got, e := travel.Run(src, a.Shape(), 9, whole, whole); len(got) != 0 || e != api.ErrDown || src.Reads() != 1 {
		t.Errorf("Run = %v, %v, %d reads", got, e, src.Reads())
	}
	if got, e := travel.Ask(src, small(), a.Shape(), api.Query{Picks: make([]api.Pick, 2)}); len(got) != 0 || e != api.ErrDown {
		t.Errorf("Ask = %v, %v", got, e)
	}
}

// TestP39_1_Over: a sum that does not fit with what is in its group.
func TestP39_1_Over(t *testing.T) {
	x := api.Shape{Sizes: [][]int{{3}, {2}}, Measures: 1}
	a := loaded(t, x, leaf(1, most, 1, 2), leaf(1, 3, most), mid(0, 0, 0, 1))
	each := scan(0, at(0, 1), 0, 1)
	wantRun(t, "apart", a, 9, []api.Scan{each, whole}, []api.Fact{group(sum(most), 0), group(sum(3), 1)}, api.OK)
	wantRun(t, "together", a, 9, []api.Scan{scan(0, at(0, 1)), whole}, nil, api.ErrOver)
	wantRun(t, "together in a group", a, 1, []api.Scan{scan(0, at(0, 1), 4, 4), whole}, nil, api.ErrOver)
	wantRun(t, "members", a, 9, []api.Scan{scan(0, at(0, 1)), scan(0, at(0), 1)}, nil, api.ErrOver)
}

// TestP39_1_FirstOnTheWay: of several errors the one that comes first on the way, member by member.
func TestP39_1_FirstOnTheWay(t *testing.T) {
	x := api.Shape{Sizes: [][]int{{3}, {2}}, Measures: 1}
	// The first member leads to a leaf whose sums do not fit, the second one to what is none.
	s, begins := text(t, x, is(leaf(1, 0, most, 1)), func(b []int) api.Node { return mid(0, 0, b[0], b[0]+1, b[0]) })
	src := source.Pager(paged(t, s, begins[1]), x)
	both := scan(0, at(0, 1))
	for name, c := range map[string]struct {
		n int
		l []api.Scan
		e api.Errno
	}{
		"sums first":           {9, []api.Scan{scan(0, at(0, 1, 2)), both}, api.ErrOver},
		"what is none first":   {9, []api.Scan{scan(0, at(1, 2)), both}, api.ErrCorrupt},
		"groups first":         {0, []api.Scan{scan(0, at(0, 1, 2)), both}, api.ErrRows},
		"one group, then none": {1, []api.Scan{scan(0, at(0, 1, 2), 0, 1, 2), whole}, api.ErrCorrupt},
		"a group beyond":       {1, []api.Scan{scan(0, at(0, 2), 0, 2), whole}, api.ErrRows},
	} {
		if got, e := travel.Run(src, x, c.n, c.l...); len(got) != 0 || e != c.e {
			t.Errorf("%s: Run = %v, %v, want %v", name, got, e, c.e)
		}
	}
}

// crowd is an arena by hand in which the last dimension's node is asked for as many times as the cells of both dimensions ahead have it.
func crowd(t *testing.T, first, second, last int) *arena.Arena {
	t.Helper()
	x := api.Shape{Sizes: [][]int{{200}, {200}, {1}}, Measures: 1}
	to := make([]int, 200)
	for i := range to {
		to[i] = 1
	}
	to[first-1] = 2
	return loaded(t, x, leaf(2, 0, 0), mid(1, 0, make([]int, second)...), mid(1, 0, make([]int, last)...), mid(0, 1, to[:first]...))
}

// TestP39_1_Crowd: nodes of one dimension are asked for at most 4000 times.
func TestP39_1_Crowd(t *testing.T) {
	each := scan(0, up(200))
	for _, c := range []struct {
		first, second, last, reads int
		e                          api.Errno
	}{
		{200, 20, 20, 4201, api.OK},
		{200, 20, 21, 4201, api.ErrCorrupt},
		{200, 21, 20, 0, api.ErrCorrupt},
		{20, 200, 200, 4021, api.OK},
		{21, 200, 1, 4021, api.ErrCorrupt},
		{200, 200, 200, 4021, api.ErrCorrupt},
	} {
		a := crowd(t, c.first, c.second, c.last)
		for where, src := range sources(t, a) {
			got, e := travel.Run(src, a.Shape(), 9, each, each, whole)
			if e != c.e || (len(got) == 1) != (e == api.OK) {
				t.Errorf("%v, %s: Run = %v, %v", c, where, got, e)
			}
			if c.reads > 0 && src.Reads() != c.reads && src.Reads() != c.reads+1 {
				t.Errorf("%v, %s: %d reads", c, where, src.Reads())
			}
			if e == api.OK && got[0].Agg.Count != 4000 {
				t.Errorf("%v, %s: Run = %v", c, where, got)
			}
		}
	}
	// An error that comes ahead of the last times is told.
	if got, e := travel.Run(source.Arena(crowd(t, 200, 200, 200)), api.Shape{Sizes: [][]int{{200}, {200}, {1}}, Measures: 1}, 0, each, each, whole); len(got) != 0 || e != api.ErrRows {
		t.Errorf("Run = %v, %v", got, e)
	}
}

// TestP39_1_Memory: what is answered shares nothing with the scans, whose spare room is left.
func TestP39_1_Memory(t *testing.T) {
	a := built(t, small(), facts()...)
	into := append(make([]int, 0, 9), 4, 5)
	take := append(make([]int, 0, 9), 0, 2)
	l := append(make([]api.Scan, 0, 9), scan(0, take, into...), whole)
	l[0].Into = into
	got, _ := travel.Run(source.Arena(a), a.Shape(), 9, l...)
	got[0].Keys = append(got[0].Keys, 77)
	got[0].Keys[0] = 88
	if into[0] != 4 || into[:3][2] != 0 || take[:3][2] != 0 || l[:3][2].Take != nil || got[1].Keys[0] != 5 {
		t.Errorf("memory is shared: %v, %v, %v", into[:3], take[:3], got)
	}
	before := a.Nodes()
	if again, _ := travel.Run(source.Arena(a), a.Shape(), 9, l...); !fact.Same(again, []api.Fact{group(sums(1, 2, 4), 4), group(sums(8, 16), 5)}) || !slices.EqualFunc(before, a.Nodes(), node.Same) {
		t.Errorf("Run again = %v", again)
	}
}

// query is of picks.
func query(l ...api.Pick) api.Query { return api.Query{Picks: l} }

func within(tier int, lo, hi string) api.Pick {
	return api.Pick{Filter: api.Within, Tier: tier, Lo: lo, Hi: hi}
}

func among(tier int, set ...string) api.Pick {
	return api.Pick{Filter: api.Among, Tier: tier, Set: set}
}

// by is a pick, grouped by a tier.
func by(tier int, p api.Pick) api.Pick {
	p.Group, p.By = true, tier
	return p
}

func TestP39_2_Ask(t *testing.T) {
	a := built(t, small(), facts()...)
	for _, c := range []struct {
		name string
		q    api.Query
		want []api.Group
	}{
		{"all", query(api.Pick{}, api.Pick{}), []api.Group{named(sums(1, 2, 4, 8, 16))}},
		{"grouped", query(by(0, api.Pick{}), api.Pick{}), []api.Group{named(sums(1, 2, 4), "a"), named(sums(8, 16), "c")}},
		{"grouped by both", query(by(0, api.Pick{}), by(1, api.Pick{})), []api.Group{named(sums(2, 4), "a", "p"), named(sum(1), "a", "q"), named(sum(8), "c", "p"), named(sum(16), "c", "q")}},
		{"of one", query(among(0, "c"), by(0, api.Pick{})), []api.Group{named(sum(8), "w"), named(sum(16), "z")}},
		{"of none", query(among(0, "b"), by(0, api.Pick{})), nil},
		{"of an empty set", query(among(0), api.Pick{}), nil},
		{"of a range", query(api.Pick{}, by(2, within(0, "w", "y"))), []api.Group{named(sums(2, 4, 8), "l")}},
		{"of a range that falls", query(api.Pick{}, within(0, "y", "w")), nil},
		{"of a coarser tier's range", query(by(0, within(0, "b", "c")), within(1, "q", "~")), []api.Group{named(sum(16), "c")}},
		{"of the coarsest tier's set, grouped by the finest", query(api.Pick{}, by(0, among(2, "m"))), []api.Group{named(sum(1), "v"), named(sum(16), "z")}},
	} {
		for where, src := range sources(t, a) {
			if got, e := travel.Ask(src, small(), a.Shape(), c.q); e != api.OK || !sameGroups(got, c.want) {
				t.Errorf("%s, %s: Ask = %v, %v, want %v", c.name, where, got, e, c.want)
			}
		}
	}
}

func TestP39_2_Errors(t *testing.T) {
	a := built(t, small(), facts()...)
	twice := small()
	twice.Dims[1].Name = "d"
	x := a.Shape()
	short := api.Shape{Sizes: [][]int{{2}, {5, 3, 2}}, Measures: 1}
	all := query(api.Pick{}, api.Pick{})
	for name, c := range map[string]struct {
		s api.Schema
		x api.Shape
		q api.Query
		e api.Errno
	}{
		"a schema that may not be":          {twice, x, all, api.ErrTwice},
		"a schema that may not be, nor go":  {twice, short, query(by(0, api.Pick{}), api.Pick{}), api.ErrTwice},
		"a pick too few":                    {small(), x, query(api.Pick{}), api.ErrArg},
		"no member":                         {small(), x, query(among(0, "x"), api.Pick{}), api.ErrMember},
		"a set that falls":                  {small(), short, query(among(0, "c", "a"), api.Pick{}), api.ErrOrder},
		"an end too long":                   {small(), x, query(api.Pick{}, within(0, "", "0123456789abcdefg")), api.ErrLimit},
		"no shape":                          {small(), api.Shape{}, all, api.ErrArg},
		"a shape without that member":       {small(), short, query(by(0, api.Pick{}), api.Pick{}), api.ErrMember},
		"a shape without the nodes' member": {small(), short, all, api.ErrCorrupt},
	} {
		for where, src := range sources(t, a) {
			if got, e := travel.Ask(src, c.s, c.x, c.q); len(got) != 0 || e != c.e {
				t.Errorf("%s, %s: Ask = %v, %v, want %v", name, where, got, e, c.e)
			}
		}
		if c.e == api.ErrCorrupt {
			continue
		}
		// They are told ahead of a source that has nothing.
		if got, e := travel.Ask(nil, c.s, c.x, c.q); len(got) != 0 || e != c.e {
			t.Errorf("%s: Ask = %v, %v, want %v", name, got, e, c.e)
		}
	}
	if got, e := travel.Ask(nil, small(), x, all); len(got) != 0 || e != api.OK {
		t.Errorf("Ask of no source = %v, %v", got, e)
	}
}

// TestP39_2_Groups: at most 500.
func TestP39_2_Groups(t *testing.T) {
	var terms []string
	for i := range 30 {
		terms = append(terms, fmt.Sprintf("m%02d", i))
	}
	s := api.Schema{Measures: []string{"m"}}
	for _, name := range []string{"d", "e"} {
		s.Dims = append(s.Dims, api.Dim{Name: name, Tiers: []api.Tier{{Name: "t", Terms: terms}}})
	}
	for _, n := range []int{500, 501} {
		var l []api.Fact
		for i := range n {
			l = append(l, one(int64(i), i/30, i%30))
		}
		for where, src := range sources(t, built(t, s, l...)) {
			got, e := travel.Ask(src, s, schema.Shape(s), query(by(0, api.Pick{}), by(0, api.Pick{})))
			if n > 500 && (len(got) != 0 || e != api.ErrRows) || n <= 500 && (len(got) != n || e != api.OK) {
				t.Errorf("%s: Ask of %d groups = %d, %v", where, n, len(got), e)
			}
		}
	}
}

// TestP39_2_Memory: groups' keys share nothing.
func TestP39_2_Memory(t *testing.T) {
	a := built(t, small(), facts()...)
	q := query(by(0, api.Pick{}), by(0, among(2, "l")))
	got, _ := travel.Ask(source.Arena(a), small(), a.Shape(), q)
	want, _ := travel.Ask(source.Arena(a), small(), a.Shape(), q)
	got[0].Keys = append(got[0].Keys, "more", "more")
	got[0].Keys[0], got[0].Keys[1] = "turned", "turned"
	if !sameGroups(got[1:], want[1:]) || !slices.Equal(q.Picks[1].Set, []string{"l"}) {
		t.Errorf("the groups share memory: %v", got)
	}
}

// random is a schema of some dimensions, facts of it, and the query of some picks.
func random(r *rand.Rand) (api.Schema, []api.Fact) {
	s := api.Schema{Measures: []string{"m", "n"}}
	for i := range 1 + r.Intn(4) {
		d := api.Dim{Name: fmt.Sprintf("d%d", i)}
		sizes := []int{1 + r.Intn(8)}
		for range r.Intn(4) {
			sizes = append(sizes, 1+r.Intn(sizes[len(sizes)-1]))
		}
		for k, n := range sizes {
			tier := api.Tier{Name: fmt.Sprintf("t%d", k)}
			for i := range n {
				tier.Terms = append(tier.Terms, fmt.Sprintf("%c%d", 'a'+k, i))
				if k+1 < len(sizes) {
					tier.Up = append(tier.Up, i%sizes[k+1])
				}
			}
			r.Shuffle(len(tier.Up), func(i, j int) { tier.Up[i], tier.Up[j] = tier.Up[j], tier.Up[i] })
			d.Tiers = append(d.Tiers, tier)
		}
		s.Dims = append(s.Dims, d)
	}
	var l []api.Fact
	for range r.Intn(40) {
		a, _ := agg.Of(int64(r.Intn(99)-49), int64(r.Intn(9)))
		f := api.Fact{Agg: a}
		for _, d := range s.Dims {
			f.Keys = append(f.Keys, r.Intn(len(d.Tiers[0].Terms)))
		}
		l = append(l, f)
	}
	l, _ = ingest.Any(l...)
	return s, l
}

func pick(r *rand.Rand, d api.Dim) api.Pick {
	tier := r.Intn(len(d.Tiers))
	var p api.Pick
	switch r.Intn(4) {
	case 0:
		p = within(tier, fmt.Sprintf("%c%d", 'a'+tier, r.Intn(5)), fmt.Sprintf("%c%d", 'a'+tier, 2+r.Intn(9)))
	case 1:
		p = among(tier)
		for _, name := range d.Tiers[tier].Terms {
			if r.Intn(3) > 0 {
				p.Set = append(p.Set, name)
			}
		}
	}
	if r.Intn(2) > 0 {
		p = by(r.Intn(len(d.Tiers)), p)
	}
	return p
}

// over is under which member of a tier one of the finest stands.
func over(d api.Dim, tier, key int) int {
	for k := range tier {
		key = d.Tiers[k].Up[key]
	}
	return key
}

func passes(d api.Dim, p api.Pick, key int) bool {
	name := d.Tiers[p.Tier].Terms[over(d, p.Tier, key)]
	switch p.Filter {
	case api.Within:
		return name >= p.Lo && name <= p.Hi
	case api.Among:
		return slices.Contains(p.Set, name)
	}
	return true
}

// model is what a query asks of facts: fact by fact, by their names.
func model(s api.Schema, q api.Query, l []api.Fact) []api.Group {
	var want []api.Group
	var places [][]int
	for _, f := range l {
		through := true
		var names []string
		var keys []int
		for i, p := range q.Picks {
			through = through && passes(s.Dims[i], p, f.Keys[i])
			if p.Group {
				key := over(s.Dims[i], p.By, f.Keys[i])
				keys = append(keys, key)
				names = append(names, s.Dims[i].Tiers[p.By].Terms[key])
			}
		}
		if !through {
			continue
		}
		i, is := slices.BinarySearchFunc(places, keys, slices.Compare[[]int])
		if !is {
			places = slices.Insert(places, i, keys)
			want = slices.Insert(want, i, api.Group{Keys: names})
		}
		want[i].Agg, _ = agg.Join(want[i].Agg, f.Agg)
	}
	return want
}

// TestP39_3_AsTheFacts: a query is answered by the groups into which facts fall, in memory and on pages.
func TestP39_3_AsTheFacts(t *testing.T) {
	r := rand.New(rand.NewSource(39))
	groups := 0
	for range 120 {
		s, l := random(r)
		all := sources(t, built(t, s, l...))
		for range 25 {
			var q api.Query
			for _, d := range s.Dims {
				q.Picks = append(q.Picks, pick(r, d))
			}
			want := model(s, q, l)
			groups += len(want)
			for where, src := range all {
				if got, e := travel.Ask(src, s, schema.Shape(s), q); e != api.OK || !sameGroups(got, want) {
					t.Fatalf("%s: Ask(%+v) of %v = %v, %v, want %v", where, q, l, got, e, want)
				}
			}
		}
	}
	if groups < 2000 {
		t.Errorf("only %d groups", groups)
	}
}

// TestP39_3_Many: the most facts, each in a group of its own, and each group more than one fact.
func TestP39_3_Many(t *testing.T) {
	var terms []string
	for i := range 200 {
		terms = append(terms, fmt.Sprintf("m%03d", i))
	}
	s := api.Schema{Measures: []string{"m"}}
	for _, name := range []string{"d", "e"} {
		s.Dims = append(s.Dims, api.Dim{Name: name, Tiers: []api.Tier{{Name: "t", Terms: terms}}})
	}
	var l []api.Fact
	for i := range api.MaxFacts {
		l = append(l, one(int64(i), i/20, i%20*10))
	}
	a := built(t, s, l...)
	each := scan(0, up(200), up(200)...)
	wantRun(t, "each", a, api.MaxFacts, []api.Scan{each, each}, l, api.OK)
	wantRun(t, "each, one less", a, api.MaxFacts-1, []api.Scan{each, each}, nil, api.ErrRows)
}

// TestP39_4_Reads: where each dimension is gone through by all, or one, there are as many reads as dimensions, at most.
func TestP39_4_Reads(t *testing.T) {
	r := rand.New(rand.NewSource(394))
	full := 0
	for range 300 {
		s, l := random(r)
		for where, src := range sources(t, built(t, s, l...)) {
			var scans []api.Scan
			for _, d := range s.Dims {
				tier := r.Intn(len(d.Tiers)+1) - 1
				if tier < 0 {
					scans = append(scans, whole)
				} else {
					scans = append(scans, scan(tier, at(r.Intn(len(d.Tiers[tier].Terms))), 7))
				}
			}
			got, e := travel.Run(src, schema.Shape(s), 1, scans...)
			if e != api.OK || src.Reads() > len(s.Dims) || len(got) > 0 && src.Reads() != len(s.Dims) {
				t.Fatalf("%s: Run(%v) = %v, %v, %d reads", where, scans, got, e, src.Reads())
			}
			full += len(got)
		}
	}
	if full < 100 {
		t.Errorf("only %d points", full)
	}
}

// TestP39_1_AnyBytes: whatever bytes the pages have, a query ends; what goes wrong is told.
func TestP39_1_AnyBytes(t *testing.T) {
	r := rand.New(rand.NewSource(391))
	answered, told := 0, 0
	for range 60 {
		s, l := random(r)
		a := built(t, s, l...)
		whole, top, _ := stream.Write(a, api.MaxText)
		if whole == "" {
			continue
		}
		for range 10 {
			b := []byte(whole)
			for range 1 + r.Intn(4) {
				b[r.Intn(len(b))] = byte(r.Intn(256) >> r.Intn(8))
			}
			src := source.Pager(paged(t, string(b), top), a.Shape())
			for range 4 {
				var q api.Query
				for _, d := range s.Dims {
					q.Picks = append(q.Picks, pick(r, d))
				}
				switch got, e := travel.Ask(src, s, a.Shape(), q); {
				case e == api.OK:
					answered++
				case len(got) != 0 || e != api.ErrCorrupt && e != api.ErrOver && e != api.ErrRows:
					t.Fatalf("Ask = %v, %v", got, e)
				default:
					told++
				}
			}
		}
	}
	if answered < 100 || told < 100 {
		t.Errorf("%d were answered, %d told", answered, told)
	}
}
