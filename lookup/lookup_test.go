package lookup_test

import (
	"fmt"
	"math"
	"math/rand"
	"slices"
	"testing"

	"pithead/agg"
	"pithead/api"
	"pithead/arena"
	"pithead/build"
	"pithead/lookup"
)

const most, least = math.MaxInt64, math.MinInt64

// all stands for all of a dimension.
var all = api.Pos{Tier: -1}

// at is a member of a tier.
func at(tier, key int) api.Pos { return api.Pos{Tier: tier, Key: key} }

// one is the aggregate of a row of one measure.
func one(v int64) api.Agg {
	a, _ := agg.Of(v)
	return a
}

// named are so many texts, which rise.
func named(n int) []string {
	l := make([]string, n)
	for i := range l {
		l[i] = fmt.Sprintf("m%03d", i)
	}
	return l
}

// three is of three dimensions, of which the second one has two tiers, and the third one three.
func three() api.Schema {
	dim := func(name string, sizes ...int) api.Dim {
		d := api.Dim{Name: name}
		for k, n := range sizes {
			tier := api.Tier{Name: named(9)[k], Terms: named(n)}
			for i := range n {
				if k+1 < len(sizes) {
					tier.Up = append(tier.Up, i%sizes[k+1])
				}
			}
			d.Tiers = append(d.Tiers, tier)
		}
		return d
	}
	return api.Schema{Dims: []api.Dim{dim("d", 3), dim("e", 4, 2), dim("f", 5, 3, 2)}, Measures: []string{"m"}}
}

// facts are some of its facts, rising.
func facts(r *rand.Rand, n int) []api.Fact {
	came := map[[3]int]int64{}
	for range n {
		came[[3]int{r.Intn(3), r.Intn(4), r.Intn(5)}] = int64(r.Intn(99) - 49)
	}
	var l []api.Fact
	for keys, v := range came {
		l = append(l, api.Fact{Keys: keys[:], Agg: one(v)})
	}
	slices.SortFunc(l, func(a, b api.Fact) int { return slices.Compare(a.Keys, b.Keys) })
	return l
}

func built(t *testing.T, l ...api.Fact) *arena.Arena {
	t.Helper()
	a, e := build.Build(three(), api.MaxNodes, l...)
	if a == nil || e != api.OK {
		t.Fatalf("Build = %v, %v", a, e)
	}
	return a
}

// reader reads nodes by their places, and notes which places were asked for.
type reader struct {
	nodes map[int]api.Node
	asked []int
}

func (r *reader) read(at int) (api.Node, api.Errno) {
	r.asked = append(r.asked, at)
	n, is := r.nodes[at]
	if !is {
		return api.Node{Dim: len(r.asked) - 1, Lists: [][]api.Cell{{{}}}}, api.ErrClosed
	}
	return n, api.OK
}

// chain is nodes of three dimensions at places far from one another; the third one's are of aggregates.
func chain() *reader {
	return &reader{nodes: map[int]api.Node{
		70: {Dim: 0, Lists: [][]api.Cell{{{Key: 1, Child: -5}, {Key: 2, Child: 6}}}, All: api.Cell{Child: 9000}},
		-5: {Dim: 1, Lists: [][]api.Cell{{{Key: 0, Child: 3}}, {{Key: 1, Child: 4}}}, All: api.Cell{Child: 3}},
		6:  {Dim: 2, Lists: [][]api.Cell{{{}}}},
		3:  {Dim: 2, Lists: [][]api.Cell{{{Key: 4, Agg: one(8)}}}, All: api.Cell{Agg: one(9)}},
		4:  {Dim: 2, All: api.Cell{Agg: one(9)}},
	}}
}

func TestP27_1_Along(t *testing.T) {
	for _, c := range []struct {
		name string
		top  int
		l    []api.Pos
		want api.Agg
		e    api.Errno
		path []int // what is asked for
	}{
		{"nothing", 70, nil, api.Agg{}, api.OK, nil},
		{"nothing, from nowhere", -1, []api.Pos{}, api.Agg{}, api.OK, nil},
		{"to a member", 70, []api.Pos{at(0, 1), at(0, 0), at(0, 4)}, one(8), api.OK, []int{70, -5, 3}},
		{"to all", 70, []api.Pos{at(0, 1), all, all}, one(9), api.OK, []int{70, -5, 3}},
		{"to all, whatever the key", 70, []api.Pos{at(0, 1), at(-7, 3), at(least, most)}, one(9), api.OK, []int{70, -5, 3}},
		{"a part of the way", 70, []api.Pos{at(0, 1), at(1, 1)}, api.Agg{}, api.OK, []int{70, -5}},
		{"no node", 71, []api.Pos{all, all}, api.Agg{}, api.ErrClosed, []int{71}},
		{"no node behind all", 70, []api.Pos{all, at(9, 9), all}, api.Agg{}, api.ErrClosed, []int{70, 9000}},
		{"another dimension", -5, []api.Pos{at(0, 0)}, api.Agg{}, api.ErrCorrupt, []int{-5}},
		{"another dimension, no such tier, no such member", -5, []api.Pos{at(5, 5)}, api.Agg{}, api.ErrCorrupt, []int{-5}},
		{"a dimension left out", 70, []api.Pos{at(0, 2), at(0, 0), all}, api.Agg{}, api.ErrCorrupt, []int{70, 6}},
		{"all of a dimension left out", 70, []api.Pos{at(0, 2), all}, api.Agg{}, api.ErrCorrupt, []int{70, 6}},
		{"no such tier", 70, []api.Pos{at(1, 1)}, api.Agg{}, api.ErrCorrupt, []int{70}},
		{"no such tier, far beyond", 70, []api.Pos{at(0, 1), at(most, 0)}, api.Agg{}, api.ErrCorrupt, []int{70, -5}},
		{"a node without tiers", 70, []api.Pos{at(0, 1), at(1, 1), at(0, 0)}, api.Agg{}, api.ErrCorrupt, []int{70, -5, 4}},
		{"all of a node without tiers", 70, []api.Pos{at(0, 1), at(1, 1), all}, api.Agg{}, api.ErrNone, []int{70, -5, 4}},
		{"no such member", 70, []api.Pos{at(0, 0)}, api.Agg{}, api.ErrNone, []int{70}},
		{"no such member, far below 0", 70, []api.Pos{at(0, least)}, api.Agg{}, api.ErrNone, []int{70}},
		{"no such member of that tier", 70, []api.Pos{at(0, 1), at(1, 0), all}, api.Agg{}, api.ErrNone, []int{70, -5}},
		{"no such member at the end", 70, []api.Pos{at(0, 1), at(0, 0), at(0, 3)}, api.Agg{}, api.ErrNone, []int{70, -5, 3}},
		{"more than there is", 70, []api.Pos{at(0, 1), all, all, all}, api.Agg{}, api.ErrClosed, []int{70, -5, 3, 0}},
	} {
		r := chain()
		g, n, e := lookup.Along(c.top, r.read, c.l...)
		if g != c.want || n != len(c.path) || e != c.e || !slices.Equal(r.asked, c.path) {
			t.Errorf("%s: Along = %v, %d, %v, want %v, %d, %v; asked for %v", c.name, g, n, e, c.want, len(c.path), c.e, r.asked)
		}
	}
}

// TestP27_1_AlongAsRead: an error of what reads is Along's, whatever node stands beside it.
func TestP27_1_AlongAsRead(t *testing.T) {
	for _, e := range []api.Errno{api.ErrDown, api.ErrNil, api.ErrCorrupt, -3, 99} {
		good, _ := chain().read(70)
		read := func(at int) (api.Node, api.Errno) {
			if at == 70 {
				return good, api.OK
			}
			return api.Node{Dim: 1, Lists: [][]api.Cell{{}}, All: api.Cell{Agg: one(3)}}, e
		}
		if g, n, got := lookup.Along(70, read, all, all); g != (api.Agg{}) || n != 2 || got != e {
			t.Errorf("Along = %v, %d, %v, want %v", g, n, got, e)
		}
	}
}

func TestP27_2_Check(t *testing.T) {
	x := api.Shape{Sizes: [][]int{{3}, {4, 2}}, Measures: 1}
	for _, c := range []struct {
		name string
		l    []api.Pos
		e    api.Errno
	}{
		{"all", []api.Pos{all, all}, api.OK},
		{"the first ones", []api.Pos{at(0, 0), at(0, 0)}, api.OK},
		{"the last ones", []api.Pos{at(0, 2), at(1, 1)}, api.OK},
		{"the last one of the finest tier", []api.Pos{at(-9, 0), at(0, 3)}, api.OK},
		{"all, far below 0", []api.Pos{at(least, 0), all}, api.OK},
		{"none", nil, api.ErrArg},
		{"one too few", []api.Pos{all}, api.ErrArg},
		{"one too few, no member", []api.Pos{at(0, 9)}, api.ErrArg},
		{"one too many", []api.Pos{all, all, all}, api.ErrArg},
		{"one too many, no member", []api.Pos{at(0, 9), all, all}, api.ErrArg},
		{"all with a key", []api.Pos{at(-1, 1), all}, api.ErrArg},
		{"all with a key below 0", []api.Pos{all, at(-1, -1)}, api.ErrArg},
		{"one tier beyond", []api.Pos{at(1, 0), all}, api.ErrArg},
		{"a tier far beyond", []api.Pos{all, at(most, 0)}, api.ErrArg},
		{"one tier beyond, no member", []api.Pos{at(1, 9), all}, api.ErrArg},
		{"one member beyond", []api.Pos{at(0, 3), all}, api.ErrMember},
		{"a member far beyond", []api.Pos{all, at(1, most)}, api.ErrMember},
		{"a member of the finer tier alone", []api.Pos{all, at(1, 2)}, api.ErrMember},
		{"a member below 0", []api.Pos{at(0, -1), all}, api.ErrMember},
		{"a member far below 0", []api.Pos{all, at(0, least)}, api.ErrMember},
		{"no member, and then no tier", []api.Pos{at(0, 3), at(2, 0)}, api.ErrMember},
		{"no tier, and then no member", []api.Pos{at(1, 0), at(0, 4)}, api.ErrArg},
	} {
		if e := lookup.Check(x, c.l...); e != c.e {
			t.Errorf("%s: Check = %v, want %v", c.name, e, c.e)
		}
	}
	for _, c := range []struct {
		x api.Shape
		l []api.Pos
		e api.Errno
	}{
		{api.Shape{}, nil, api.OK},
		{api.Shape{}, []api.Pos{all}, api.ErrArg},
		{api.Shape{Sizes: [][]int{nil}}, []api.Pos{all}, api.OK},
		{api.Shape{Sizes: [][]int{{}}}, []api.Pos{{}}, api.ErrArg},
		{api.Shape{Sizes: [][]int{{0, least}}}, []api.Pos{{}}, api.ErrMember},
		{api.Shape{Sizes: [][]int{{0, least}}}, []api.Pos{at(1, least)}, api.ErrMember},
	} {
		if e := lookup.Check(c.x, c.l...); e != c.e {
			t.Errorf("Check(%v, %v) = %v, want %v", c.x, c.l, e, c.e)
		}
	}
}

// stands tells whether a fact stands under all of a way.
func stands(f api.Fact, way []api.Pos) bool {
	s := three()
	for d, p := range way {
		key := f.Keys[d]
		for k := range max(p.Tier, 0) {
			key = s.Dims[d].Tiers[k].Up[key]
		}
		if p.Tier >= 0 && key != p.Key {
			return false
		}
	}
	return true
}

// choices are all that may be asked of a dimension.
func choices(d int) []api.Pos {
	l := []api.Pos{all}
	for k, tier := range three().Dims[d].Tiers {
		for key := range tier.Terms {
			l = append(l, at(k, key))
		}
	}
	return l
}

// eachWay calls a function with each way through the three dimensions.
func eachWay(do func(way []api.Pos)) {
	for _, a := range choices(0) {
		for _, b := range choices(1) {
			for _, c := range choices(2) {
				do([]api.Pos{a, b, c})
			}
		}
	}
}

// want is what a point is to answer.
func want(l []api.Fact, way []api.Pos) (api.Agg, api.Errno) {
	var g api.Agg
	e := api.ErrNone
	for _, f := range l {
		if stands(f, way) {
			g, _ = agg.Join(g, f.Agg)
			e = api.OK
		}
	}
	return g, e
}

// TestP27_2_Points holds each point of random cubes against the facts that stand under it.
func TestP27_2_Points(t *testing.T) {
	r := rand.New(rand.NewSource(27))
	for n := range 12 {
		l := facts(r, n*3)
		a := built(t, l...)
		eachWay(func(way []api.Pos) {
			wantAgg, wantErr := want(l, way)
			before := slices.Clone(way)
			if g, e := lookup.Point(a, way...); g != wantAgg || e != wantErr {
				t.Fatalf("Point(%v) = %v, %v, want %v, %v", way, g, e, wantAgg, wantErr)
			}
			p, e := lookup.Way(a, way...)
			if e != wantErr || (len(p) == 3) != (e == api.OK) || e != api.OK && len(p) != 0 {
				t.Fatalf("Way(%v) = %v, %v, want %v", way, p, e, wantErr)
			}
			if !slices.Equal(way, before) {
				t.Fatalf("the way %v was changed", before)
			}
		})
		wantAgg, wantErr := want(l, []api.Pos{all, all, all})
		if g, e := lookup.Total(a); g != wantAgg || e != wantErr {
			t.Errorf("Total = %v, %v, want %v, %v", g, e, wantAgg, wantErr)
		}
	}
}

func TestP27_2_Errors(t *testing.T) {
	full, empty := built(t, facts(rand.New(rand.NewSource(1)), 9)...), built(t)
	for _, c := range []struct {
		name string
		l    []api.Pos
		e    api.Errno // of an arena without nodes
	}{
		{"none", nil, api.ErrArg},
		{"one too few", []api.Pos{all, all}, api.ErrArg},
		{"one too many", []api.Pos{all, all, all, all}, api.ErrArg},
		{"all with a key", []api.Pos{all, at(-1, 2), all}, api.ErrArg},
		{"no such tier", []api.Pos{at(1, 0), all, all}, api.ErrArg},
		{"no such member", []api.Pos{at(0, 3), all, all}, api.ErrMember},
		{"all", []api.Pos{all, all, all}, api.ErrNone},
		{"a member", []api.Pos{at(0, 0), at(1, 1), at(2, 1)}, api.ErrNone},
	} {
		for name, a := range map[string]*arena.Arena{"nil": nil, "plain": {}} {
			if g, e := lookup.Point(a, c.l...); g != (api.Agg{}) || e != api.ErrNil {
				t.Errorf("%s of %s: Point = %v, %v", c.name, name, g, e)
			}
			if p, e := lookup.Way(a, c.l...); len(p) != 0 || e != api.ErrNil {
				t.Errorf("%s of %s: Way = %v, %v", c.name, name, p, e)
			}
		}
		if g, e := lookup.Point(empty, c.l...); g != (api.Agg{}) || e != c.e {
			t.Errorf("%s: Point = %v, %v, want %v", c.name, g, e, c.e)
		}
		if p, e := lookup.Way(empty, c.l...); len(p) != 0 || e != c.e {
			t.Errorf("%s: Way = %v, %v, want %v", c.name, p, e, c.e)
		}
		if c.e == api.ErrNone {
			continue
		}
		if g, e := lookup.Point(full, c.l...); g != (api.Agg{}) || e != c.e {
			t.Errorf("%s: Point = %v, %v, want %v", c.name, g, e, c.e)
		}
		if p, e := lookup.Way(full, c.l...); len(p) != 0 || e != c.e {
			t.Errorf("%s: Way = %v, %v, want %v", c.name, p, e, c.e)
		}
	}
}

func TestP27_2_Total(t *testing.T) {
	for name, a := range map[string]*arena.Arena{"nil": nil, "plain": {}} {
		if g, e := lookup.Total(a); g != (api.Agg{}) || e != api.ErrNil {
			t.Errorf("Total of %s = %v, %v", name, g, e)
		}
	}
	if g, e := lookup.Total(built(t)); g != (api.Agg{}) || e != api.ErrNone {
		t.Errorf("Total of an arena without nodes = %v, %v", g, e)
	}
	a := built(t, api.Fact{Keys: []int{0, 0, 0}, Agg: one(-4)}, api.Fact{Keys: []int{2, 3, 4}, Agg: one(9)})
	if g, e := lookup.Total(a); e != api.OK || g.Count != 2 || g.M[0] != (api.Part{Sum: 5, Min: -4, Max: 9}) {
		t.Errorf("Total = %v, %v", g, e)
	}
}

// TestP27_2_NotWhole: a last node of another dimension is not what a way begins with.
func TestP27_2_NotWhole(t *testing.T) {
	whole := built(t, api.Fact{Keys: []int{1, 1, 1}, Agg: one(3)})
	leaf, _ := whole.Node(0)
	if _, e := whole.Add(leaf); e != api.OK {
		t.Fatal(e)
	}
	if g, e := lookup.Point(whole, all, all, all); g != (api.Agg{}) || e != api.ErrCorrupt {
		t.Errorf("Point = %v, %v", g, e)
	}
	if p, e := lookup.Way(whole, all, all, all); len(p) != 0 || e != api.ErrCorrupt {
		t.Errorf("Way = %v, %v", p, e)
	}
	if g, e := lookup.Total(whole); g != (api.Agg{}) || e != api.ErrCorrupt {
		t.Errorf("Total = %v, %v", g, e)
	}
}

// TestP27_2_Way: the places of a way's nodes, from the last one on, each where the cell ahead leads.
func TestP27_2_Way(t *testing.T) {
	a := built(t, api.Fact{Keys: []int{0, 0, 0}, Agg: one(3)}, api.Fact{Keys: []int{0, 2, 1}, Agg: one(5)}, api.Fact{Keys: []int{1, 1, 1}, Agg: one(-4)})
	leads := func(place int, p api.Pos) int {
		n, _ := a.Node(place)
		if p.Tier < 0 {
			return n.All.Child
		}
		for _, c := range n.Lists[p.Tier] {
			if c.Key == p.Key {
				return c.Child
			}
		}
		return -1
	}
	ways := 0
	eachWay(func(way []api.Pos) {
		p, e := lookup.Way(a, way...)
		if e != api.OK {
			return
		}
		ways++
		if p[0] != a.Top() || p[1] != leads(p[0], way[0]) || p[2] != leads(p[1], way[1]) {
			t.Fatalf("Way(%v) = %v", way, p)
		}
	})
	if ways < 50 {
		t.Errorf("only %d ways", ways)
	}
	// Of the place 1 there is one fact: all ways to it go through the same nodes.
	p, _ := lookup.Way(a, at(0, 1), all, all)
	q, _ := lookup.Way(a, at(0, 1), at(1, 1), at(2, 1))
	if len(p) != 3 || !slices.Equal(p, q) {
		t.Errorf("Way = %v, and %v", p, q)
	}
	p[0], p[1], p[2] = 77, 77, 77
	if again, _ := lookup.Way(a, at(0, 1), all, all); !slices.Equal(again, q) {
		t.Errorf("Way = %v behind a change of an earlier answer", again)
	}
}

// TestP27_3_AsManyAsDimensions: a point that is there asks for a node a dimension.
func TestP27_3_AsManyAsDimensions(t *testing.T) {
	l := facts(rand.New(rand.NewSource(273)), 30)
	a := built(t, l...)
	points := 0
	eachWay(func(way []api.Pos) {
		asked := 0
		read := func(at int) (api.Node, api.Errno) {
			asked++
			return a.Node(at)
		}
		g, n, e := lookup.Along(a.Top(), read, way...)
		p, pe := lookup.Point(a, way...)
		if g != p || e != pe || n != asked {
			t.Fatalf("Along(%v) = %v, %d, %v; asked %d times; Point = %v, %v", way, g, n, e, asked, p, pe)
		}
		if e == api.OK {
			points++
			if n != 3 {
				t.Fatalf("the point %v asks for %d nodes", way, n)
			}
		}
	})
	if points < 100 {
		t.Errorf("only %d points", points)
	}
	single := api.Schema{Dims: three().Dims[:1], Measures: []string{"m"}}
	b, _ := build.Build(single, 9, api.Fact{Keys: []int{2}, Agg: one(4)})
	if g, n, e := lookup.Along(b.Top(), b.Node, at(0, 2)); g != one(4) || n != 1 || e != api.OK {
		t.Errorf("of one dimension: Along = %v, %d, %v", g, n, e)
	}
}
