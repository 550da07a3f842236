package same_test

import (
	"fmt"
	"math"
	"math/rand"
	"slices"
	"testing"

	"pithead/agg"
	"pithead/api"
	"pithead/arena"
	"pithead/build"
	"pithead/ingest"
	"pithead/node"
	"pithead/pair"
	"pithead/same"
	"pithead/schema"
)

// one is the fact of a row of one measure.
func one(v int64, keys ...int) api.Fact {
	a, _ := agg.Of(v)
	return api.Fact{Keys: keys, Agg: a}
}

// named are so many members, or tiers, or dimensions, which rise.
func named(n int) []string {
	l := make([]string, n)
	for i := range l {
		l[i] = fmt.Sprintf("m%03d", i)
	}
	return l
}

// tiered is a schema of dimensions of two tiers, of so many members and half as many.
func tiered(sizes ...int) api.Schema {
	s := api.Schema{Measures: []string{"m"}}
	for d, n := range sizes {
		low, up := api.Tier{Name: "low", Terms: named(n)}, api.Tier{Name: "up", Terms: named((n + 1) / 2)}
		for i := range n {
			low.Up = append(low.Up, i/2)
		}
		s.Dims = append(s.Dims, api.Dim{Name: named(16)[d], Tiers: []api.Tier{low, up}})
	}
	return s
}

// flat is a schema of dimensions of one tier.
func flat(sizes ...int) api.Schema {
	s := api.Schema{Measures: []string{"m"}}
	for d, n := range sizes {
		s.Dims = append(s.Dims, api.Dim{Name: named(16)[d], Tiers: []api.Tier{{Name: "t", Terms: named(n)}}})
	}
	return s
}

func built(t *testing.T, s api.Schema, l ...api.Fact) *arena.Arena {
	t.Helper()
	a, e := build.Build(s, api.MaxNodes, l...)
	if a == nil || e != api.OK {
		t.Fatalf("Build = %v, %v", a, e)
	}
	return a
}

func loaded(t *testing.T, x api.Shape, l ...api.Node) *arena.Arena {
	t.Helper()
	a, e := arena.Load(x, l...)
	if a == nil || e != api.OK {
		t.Fatalf("Load = %v, %v", a, e)
	}
	return a
}

// tells: whether two arenas tell the same, whichever is named first; each call leaves both as they are.
func tells(t *testing.T, name string, a, b *arena.Arena, want bool) {
	t.Helper()
	ofA, ofB := a.Nodes(), b.Nodes()
	if same.Tells(a, b) != want || same.Tells(b, a) != want {
		t.Errorf("%s: Tells = %v, %v, want %v", name, same.Tells(a, b), same.Tells(b, a), want)
	}
	if !slices.EqualFunc(ofA, a.Nodes(), node.Same) || !slices.EqualFunc(ofB, b.Nodes(), node.Same) {
		t.Errorf("%s: an arena was changed", name)
	}
}

// equal: whether two arenas have the same nodes in the same places.
func equal(t *testing.T, name string, a, b *arena.Arena, want bool) {
	t.Helper()
	if same.Equal(a, b) != want || same.Equal(b, a) != want {
		t.Errorf("%s: Equal = %v, %v, want %v", name, same.Equal(a, b), same.Equal(b, a), want)
	}
}

// led is a cell that leads to a node, sum one of the aggregate of a row.
func led(key, child int) api.Cell { return api.Cell{Key: key, Child: child} }

func sum(key int, v int64) api.Cell { return api.Cell{Key: key, Agg: one(v).Agg} }

// shape is of two dimensions of two tiers.
func shape() api.Shape { return api.Shape{Sizes: [][]int{{3, 3}, {4, 2}}, Measures: 1} }

// low is a node of the last dimension, high one of the first one.
func low(v int64) api.Node {
	return api.Node{Dim: 1, Lists: [][]api.Cell{{sum(0, v), sum(3, v)}, {sum(1, v+1)}}, All: sum(0, v+2)}
}

func high(first, second, above, all int) api.Node {
	return api.Node{Lists: [][]api.Cell{{led(0, first), led(2, second)}, {led(1, above)}}, All: led(0, all)}
}

// changed is a node of which a copy was changed.
func changed(n api.Node, change func(n *api.Node)) api.Node {
	n = node.Clone(n)
	change(&n)
	return n
}

// copies are arenas that no call made, and one that a call made.
func copies(t *testing.T) (map[string]*arena.Arena, *arena.Arena) {
	t.Helper()
	a := loaded(t, shape(), low(1), high(0, 0, 0, 0))
	copied := *a
	return map[string]*arena.Arena{"nil": nil, "plain": {}, "a copy": &copied}, a
}

func TestP31_1_NotMade(t *testing.T) {
	l, a := copies(t)
	for name, b := range l {
		for other, c := range l {
			tells(t, name+", "+other, b, c, false)
			equal(t, name+", "+other, b, c, false)
		}
		none := loaded(t, shape())
		tells(t, name, a, b, false)
		tells(t, name+", none", none, b, false)
		equal(t, name, a, b, false)
		equal(t, name+", none", none, b, false)
	}
}

func TestP31_1_WithoutNodes(t *testing.T) {
	none := loaded(t, shape())
	other := shape()
	other.Sizes[1][0] = 5
	tells(t, "both without nodes", none, loaded(t, shape()), true)
	tells(t, "itself", none, none, true)
	equal(t, "both without nodes", none, loaded(t, shape()), true)
	tells(t, "one without nodes", none, loaded(t, shape(), low(1), high(0, 0, 0, 0)), false)
	equal(t, "one without nodes", none, loaded(t, shape(), low(1), high(0, 0, 0, 0)), false)
	tells(t, "of unlike shapes", none, loaded(t, other), false)
	equal(t, "of unlike shapes", none, loaded(t, other), false)
}

// TestP31_1_Shapes: the same nodes, of unlike shapes.
func TestP31_1_Shapes(t *testing.T) {
	l := []api.Node{low(1), high(0, 0, 0, 0)}
	a := loaded(t, shape(), l...)
	for name, change := range map[string]func(x *api.Shape){
		"a size of the first dimension": func(x *api.Shape) { x.Sizes[0][0] = 4 },
		"a size of the last tier":       func(x *api.Shape) { x.Sizes[1][1] = 3 },
		"the measures":                  func(x *api.Shape) { x.Measures = 2 },
	} {
		x := shape()
		change(&x)
		b, e := arena.Load(x, l...)
		if e != api.OK {
			t.Fatal(e)
		}
		tells(t, name, a, b, false)
		equal(t, name, a, b, false)
		tells(t, name, b, b, true)
		equal(t, name, b, b, true)
	}
	single := built(t, flat(3), one(1, 2))
	tells(t, "unlike dimensions", single, built(t, flat(3, 1), one(1, 2, 0)), false)
	equal(t, "unlike dimensions", single, built(t, flat(3, 1), one(1, 2, 0)), false)
}

// TestP31_1_WhateverPlaces: what tells the same stands in other places, or there is more of it.
func TestP31_1_WhateverPlaces(t *testing.T) {
	a := loaded(t, shape(), low(1), low(5), high(0, 1, 1, 0))
	for name, l := range map[string][]api.Node{
		"turned":             {low(5), low(1), high(1, 0, 0, 1)},
		"one twice":          {low(1), low(5), low(1), high(0, 1, 1, 2)},
		"each as it is used": {low(1), low(5), low(5), low(1), high(0, 1, 2, 3)},
	} {
		b := loaded(t, shape(), l...)
		tells(t, name, a, b, true)
		equal(t, name, a, b, false)
		equal(t, name+", again", b, loaded(t, shape(), l...), true)
	}
	tells(t, "itself", a, a, true)
	equal(t, "itself", a, a, true)
	equal(t, "again", a, loaded(t, shape(), low(1), low(5), high(0, 1, 1, 0)), true)
}

// TestP31_1_Unlike: whatever two arenas tell otherwise.
func TestP31_1_Unlike(t *testing.T) {
	a := loaded(t, shape(), low(1), low(5), high(0, 1, 1, 0))
	two := func(c *api.Cell) { // two rows of which a cell tells
		c.Agg = api.Agg{Count: 2, M: [3]api.Part{{Sum: 1, Min: 1, Max: 1}}}
	}
	for name, l := range map[string][]api.Node{
		"another child of a member":     {low(1), low(5), high(1, 1, 1, 0)},
		"another child of the last one": {low(1), low(5), high(0, 0, 1, 0)},
		"another child above":           {low(1), low(5), high(0, 1, 0, 0)},
		"another child of all":          {low(1), low(5), high(0, 1, 1, 1)},
		"another member": {low(1), low(5), changed(high(0, 1, 1, 0), func(n *api.Node) {
			n.Lists[0][1].Key = 1
		})},
		"another member above": {low(1), low(5), changed(high(0, 1, 1, 0), func(n *api.Node) {
			n.Lists[1][0].Key = 0
		})},
		"a member more": {low(1), low(5), changed(high(0, 1, 1, 0), func(n *api.Node) {
			n.Lists[0] = []api.Cell{led(0, 0), led(1, 0), led(2, 1)}
		})},
		"a member less": {low(1), low(5), changed(high(0, 1, 1, 0), func(n *api.Node) {
			n.Lists[0] = n.Lists[0][:1]
		})},
		"a member more above": {low(1), low(5), changed(high(0, 1, 1, 0), func(n *api.Node) {
			n.Lists[1] = append(n.Lists[1], led(2, 1))
		})},
		"another value of a member":   {changed(low(1), func(n *api.Node) { n.Lists[0][0] = sum(0, 2) }), low(5), high(0, 1, 1, 0)},
		"another value of all":        {low(1), changed(low(5), func(n *api.Node) { n.All = sum(0, 2) }), high(0, 1, 1, 0)},
		"another value above":         {low(1), changed(low(5), func(n *api.Node) { n.Lists[1][0] = sum(1, 2) }), high(0, 1, 1, 0)},
		"another count":               {changed(low(1), func(n *api.Node) { two(&n.Lists[0][0]) }), low(5), high(0, 1, 1, 0)},
		"another key of a value":      {changed(low(1), func(n *api.Node) { n.Lists[0][1].Key = 2 }), low(5), high(0, 1, 1, 0)},
		"another key of a value, too": {low(1), changed(low(5), func(n *api.Node) { n.Lists[1][0].Key = 0 }), high(0, 1, 1, 0)},
	} {
		b := loaded(t, shape(), l...)
		tells(t, name, a, b, false)
		equal(t, name, a, b, false)
		tells(t, name+", itself", b, b, true)
	}
}

// TestP31_1_Aggregates: each number of an aggregate, of each measure.
func TestP31_1_Aggregates(t *testing.T) {
	x := api.Shape{Sizes: [][]int{{1}}, Measures: 3}
	of := func(change func(g *api.Agg)) *arena.Arena {
		g := api.Agg{Count: 9}
		for i := range g.M {
			g.M[i] = api.Part{Sum: 50, Min: 3, Max: 7} // the digits 5037
		}
		change(&g)
		return loaded(t, x, api.Node{Lists: [][]api.Cell{{{Agg: g}}}, All: api.Cell{Agg: api.Agg{Count: 1}}})
	}
	a := of(func(*api.Agg) {})
	tells(t, "nothing", a, of(func(*api.Agg) {}), true)
	b := of(func(g *api.Agg) { g.Count = 8 })
	tells(t, "the count", a, b, false)
	equal(t, "the count", a, b, false)
	for i := range 3 {
		for name, change := range map[string]func(p *api.Part){
			"the sum":      func(p *api.Part) { p.Sum = -50 },
			"the least":    func(p *api.Part) { p.Min = -3 },
			"the greatest": func(p *api.Part) { p.Max = math.MaxInt64 },
			"their digits": func(p *api.Part) { p.Sum, p.Min, p.Max = 5, 0, 37 },
		} {
			b := of(func(g *api.Agg) { change(&g.M[i]) })
			tells(t, name, a, b, false)
			equal(t, name, a, b, false)
		}
	}
}

// TestP31_1_NoOtherLists: cells are told list by list: one that stands in another list is another one.
func TestP31_1_NoOtherLists(t *testing.T) {
	x := api.Shape{Sizes: [][]int{{3, 3, 3}}, Measures: 1}
	of := func(many ...int) *arena.Arena {
		n := api.Node{All: sum(0, 1)}
		for _, k := range many {
			var l []api.Cell
			for key := range k {
				l = append(l, sum(key, 1))
			}
			n.Lists = append(n.Lists, l)
		}
		return loaded(t, x, n)
	}
	tells(t, "as many", of(3, 2, 1), of(3, 2, 1), true)
	tells(t, "as many in all", of(3, 2, 1), of(2, 2, 2), false)
	tells(t, "one more", of(3, 2, 2), of(3, 2, 1), false)
}

// TestP31_1_NotWhole: what is no cube's does not tell the same, not even as itself; but it is equal to itself.
func TestP31_1_NotWhole(t *testing.T) {
	for name, l := range map[string][]api.Node{
		"a leaf alone":                {low(1)},
		"a node that is not led to":   {low(1), low(5), high(0, 0, 0, 0)},
		"a node behind the last one":  {low(1), high(0, 0, 0, 0), low(1)},
		"two nodes that lead to none": {low(1), high(0, 0, 0, 0), high(0, 0, 0, 0)},
	} {
		a, b := loaded(t, shape(), l...), loaded(t, shape(), l...)
		tells(t, name, a, b, false)
		tells(t, name, a, a, false)
		tells(t, name, a, loaded(t, shape(), low(1), high(0, 0, 0, 0)), false)
		equal(t, name, a, b, true)
		equal(t, name, a, loaded(t, shape(), low(1), high(0, 0, 0, 0)), false)
	}
}

// TestP31_1_OneMore: nodes in the same places, and one more behind them.
func TestP31_1_OneMore(t *testing.T) {
	a, b := built(t, flat(2, 2), one(1, 0, 0)), built(t, flat(2, 2), one(1, 0, 0))
	n, _ := b.Node(0)
	b.Add(n)
	equal(t, "one more", a, b, false)
	c := loaded(t, shape(), low(1), low(5), high(0, 1, 1, 0))
	equal(t, "turned", c, loaded(t, shape(), low(5), low(1), high(0, 1, 1, 0)), false)
}

// random are some facts of a schema, rising, each tuple once.
func random(r *rand.Rand, s api.Schema, n int) []api.Fact {
	var l []api.Fact
	for range n {
		f := one(int64(r.Intn(9)))
		for _, d := range s.Dims {
			f.Keys = append(f.Keys, r.Intn(len(d.Tiers[0].Terms)))
		}
		l = append(l, f)
	}
	l, _ = ingest.Any(l...)
	return l
}

// tree is an arena in which each node is led to once: one that has the same, as often as it is led to.
func tree(t *testing.T, a *arena.Arena) *arena.Arena {
	t.Helper()
	b, e := arena.New(a.Shape(), api.MaxNodes)
	if e != api.OK {
		t.Fatal(e)
	}
	if a.Len() > 0 {
		grow(t, a, b, a.Top())
	}
	return b
}

func grow(t *testing.T, a, b *arena.Arena, from int) int {
	t.Helper()
	n, _ := a.Node(from)
	if !node.Last(a.Shape(), n.Dim) {
		n.All.Child = grow(t, a, b, n.All.Child)
		for _, l := range n.Lists {
			for i := range l {
				l[i].Child = grow(t, a, b, l[i].Child)
			}
		}
	}
	at, e := b.Add(n)
	if e != api.OK {
		t.Fatal(e)
	}
	return at
}

// schemas are some that are small enough to stand as trees.
func schemas() []api.Schema {
	return []api.Schema{tiered(5), tiered(4, 3), tiered(3, 2, 3), flat(2, 3, 2, 2), flat(3)}
}

// TestP31_1_Trees: a cube and its tree tell the same; those of other facts do not.
func TestP31_1_Trees(t *testing.T) {
	r := rand.New(rand.NewSource(31))
	for range 200 {
		s := schemas()[r.Intn(5)]
		l := random(r, s, r.Intn(8))
		a := built(t, s, l...)
		b := tree(t, a)
		tells(t, "a tree", a, b, true)
		equal(t, "a tree", a, b, a.Len() == b.Len() && slices.EqualFunc(a.Nodes(), b.Nodes(), node.Same))
		other := random(r, s, r.Intn(8))
		is := slices.EqualFunc(l, other, func(a, b api.Fact) bool { return slices.Equal(a.Keys, b.Keys) && a.Agg == b.Agg })
		tells(t, "another tree", a, tree(t, built(t, s, other...)), is)
	}
}

// TestP31_1_AnyCell: a change at any cell, at whatever depth, is told.
func TestP31_1_AnyCell(t *testing.T) {
	a := tree(t, built(t, tiered(3, 2, 3), one(1, 0, 1, 0), one(2, 1, 1, 2), one(4, 2, 0, 1)))
	nodes := a.Nodes()
	cells := 0
	for i, n := range nodes {
		if n.Dim != 2 {
			continue
		}
		for k := range node.Count(n) {
			l := slices.Clone(nodes)
			l[i] = changed(n, func(n *api.Node) {
				for _, list := range n.Lists {
					if k < len(list) {
						list[k].Agg = one(77).Agg
						k = -1
						return
					}
					k -= len(list)
				}
				n.All.Agg = one(77).Agg
			})
			tells(t, "a cell", a, loaded(t, a.Shape(), l...), false)
			cells++
		}
	}
	if cells < 50 {
		t.Errorf("only %d cells were changed", cells)
	}
}

// alikes is an arena of many nodes that tell the same, to which others lead, each by other ways; the last one of those of the last dimension has a value of its own.
func alikes(t *testing.T, r *rand.Rand, many int, last int64) *arena.Arena {
	t.Helper()
	const dims, size = 5, 100
	a, e := arena.New(api.Shape{Sizes: slices.Repeat([][]int{{size}}, dims), Measures: 1}, api.MaxNodes)
	if e != api.OK {
		t.Fatal(e)
	}
	from, to := 0, 0
	for dim := dims - 1; dim >= 0; dim-- {
		come := r.Perm(to - from) // so that each one is led to
		cell := func(key int) api.Cell {
			if len(come) == 0 {
				return led(key, from+r.Intn(to-from))
			}
			next := come[0]
			come = come[1:]
			return led(key, from+next)
		}
		nodes := []int{1, size, many, many, many}[dim]
		for i := range nodes {
			if dim == dims-1 {
				cell = func(key int) api.Cell { return sum(key, []int64{1, last}[(i+1)/nodes]) }
			}
			n := api.Node{Dim: dim, Lists: [][]api.Cell{nil}, All: cell(0)}
			for key := range size {
				n.Lists[0] = append(n.Lists[0], cell(key))
			}
			if _, e := a.Add(n); e != api.OK {
				t.Fatal(e)
			}
		}
		from, to = to, a.Len()
	}
	if !a.Whole() {
		t.Fatal("not whole")
	}
	return a
}

// TestP31_1_ManyAlike: of nodes that tell the same there are far more pairs than nodes; the call ends all the same.
func TestP31_1_ManyAlike(t *testing.T) {
	a, b := alikes(t, rand.New(rand.NewSource(1)), 900, 1), alikes(t, rand.New(rand.NewSource(2)), 800, 1)
	tells(t, "all alike", a, b, true)
	tells(t, "all alike but one", a, alikes(t, rand.New(rand.NewSource(2)), 800, 2), false)
}

// sound: whether an arena is, and it is left as it is.
func sound(t *testing.T, name string, s api.Schema, a *arena.Arena, want bool) {
	t.Helper()
	before := a.Nodes()
	if same.Sound(s, a) != want {
		t.Errorf("%s: Sound = %v", name, !want)
	}
	if !slices.EqualFunc(before, a.Nodes(), node.Same) {
		t.Errorf("%s: the arena was changed", name)
	}
}

func TestP31_2_Sound(t *testing.T) {
	s := tiered(4, 3)
	l := []api.Fact{one(1, 0, 1), one(2, 1, 1), one(4, 3, 2)}
	a := built(t, s, l...)
	sound(t, "built", s, a, true)
	sound(t, "without nodes", s, built(t, s), true)
	sound(t, "a tree", s, tree(t, a), false)
	names := tiered(4, 3)
	names.Dims[0].Tiers[0].Terms = []string{"a", "b", "c", "d"}
	sound(t, "of a schema of other names", names, a, true)
}

func TestP31_2_Schemas(t *testing.T) {
	a := built(t, tiered(4, 3), one(1, 0, 1), one(2, 1, 1), one(4, 3, 2))
	none := built(t, tiered(4, 3))
	for name, change := range map[string]func(s *api.Schema){
		"no dimensions":         func(s *api.Schema) { s.Dims = nil },
		"no measures":           func(s *api.Schema) { s.Measures = nil },
		"two measures":          func(s *api.Schema) { s.Measures = []string{"m", "n"} },
		"a measure of no name":  func(s *api.Schema) { s.Measures[0] = "" },
		"a name twice":          func(s *api.Schema) { s.Dims[1].Name = s.Dims[0].Name },
		"no tree":               func(s *api.Schema) { s.Dims[0].Tiers[0].Up[1] = 2 },
		"members that fall":     func(s *api.Schema) { s.Dims[1].Tiers[0].Terms[0] = "z" },
		"a dimension less":      func(s *api.Schema) { s.Dims = s.Dims[:1] },
		"turned":                func(s *api.Schema) { s.Dims[0], s.Dims[1] = s.Dims[1], s.Dims[0] },
		"a dimension of a tier": func(s *api.Schema) { s.Dims[1] = flat(3).Dims[0] },
	} {
		s := tiered(4, 3)
		change(&s)
		sound(t, name, s, a, false)
		sound(t, name+", without nodes", s, none, false)
	}
	// Of the same shape, but other members stand above.
	s := tiered(4, 3)
	s.Dims[0].Tiers[0].Up = []int{0, 1, 1, 0}
	sound(t, "another tree", s, a, false)
	sound(t, "another tree, without nodes", s, none, true)
}

func TestP31_2_NotMade(t *testing.T) {
	l, _ := copies(t)
	for name, a := range l {
		for _, s := range []api.Schema{{}, tiered(4, 3), flat(2)} {
			sound(t, name, s, a, false)
		}
	}
}

// TestP31_2_Unsound: arenas of the schema's shape that are not the cube of their facts.
func TestP31_2_Unsound(t *testing.T) {
	s := tiered(4, 3)
	l := built(t, s, one(1, 0, 1), one(2, 1, 1), one(4, 3, 2)).Nodes()
	top := len(l) - 1
	for name, change := range map[string]func(l []api.Node){
		"a value":            func(l []api.Node) { l[0].Lists[0][0].Agg = one(9).Agg },
		"a value above":      func(l []api.Node) { l[0].Lists[1][0].Agg = one(9).Agg },
		"a value of all":     func(l []api.Node) { l[0].All.Agg = one(9).Agg },
		"a value at the top": func(l []api.Node) { l[top-1].All.Agg = one(9).Agg },
		"a child":            func(l []api.Node) { l[top].Lists[0][0].Child = 1 },
		"a child above":      func(l []api.Node) { l[top].Lists[1][0].Child = 1 },
		"a key":              func(l []api.Node) { l[top].Lists[0][0].Key, l[top].Lists[0][1].Key = 1, 2 },
		"a key above":        func(l []api.Node) { l[0].Lists[1][0].Key = 1 },
		"a fact less":        func(l []api.Node) { l[top].Lists[0] = l[top].Lists[0][:2] },
	} {
		odd := make([]api.Node, len(l))
		for i, n := range l {
			odd[i] = node.Clone(n)
		}
		change(odd)
		sound(t, name, s, loaded(t, schema.Shape(s), odd...), false)
	}
	if !same.Sound(s, loaded(t, schema.Shape(s), l...)) {
		t.Error("what was not changed is not sound")
	}
}

// TestP31_2_Order: the nodes of a cube, in other places, or others with them, are no cube of their facts.
func TestP31_2_Order(t *testing.T) {
	s := flat(2, 2)
	l := built(t, s, one(1, 0, 0), one(2, 1, 1)).Nodes()
	turned := changed(l[3], func(n *api.Node) {
		n.Lists[0][0].Child, n.Lists[0][1].Child = 1, 0
	})
	a := loaded(t, schema.Shape(s), l[1], l[0], l[2], turned)
	tells(t, "turned", a, loaded(t, schema.Shape(s), l...), true)
	sound(t, "turned", s, a, false)
	sound(t, "one behind the last one", s, loaded(t, schema.Shape(s), append(l, l[0])...), false)
	sound(t, "one that is not led to", s, loaded(t, schema.Shape(s), l[0], l[1], l[2], l[2], l[3]), false)
	sound(t, "a leaf alone", s, loaded(t, schema.Shape(s), l[0]), false)
}

// TestP31_2_Facts: 4000 facts may be, and no more.
func TestP31_2_Facts(t *testing.T) {
	s := flat(21, 200)
	var l []api.Fact
	for i := range api.MaxFacts {
		l = append(l, one(int64(i), i/200, i%200))
	}
	a := built(t, s, l...)
	sound(t, "4000 facts", s, a, true)
	m, e := pair.Merge(a, built(t, s, one(1, 20, 0)), api.MaxNodes)
	if e != api.OK {
		t.Fatal(e)
	}
	sound(t, "4001 facts", s, m, false)
}

// TestP31_3_Sound: what was built, and what was merged of such, is sound.
func TestP31_3_Sound(t *testing.T) {
	r := rand.New(rand.NewSource(313))
	for range 200 {
		s := schemas()[r.Intn(5)]
		l, other := random(r, s, r.Intn(12)), random(r, s, r.Intn(12))
		a, b := built(t, s, l...), built(t, s, other...)
		sound(t, "built", s, a, true)
		m, e := pair.Merge(a, b, api.MaxNodes)
		if e != api.OK {
			t.Fatal(e)
		}
		sound(t, "merged", s, m, true)
		m, e = pair.Many(api.MaxNodes, a, b, m)
		if e != api.OK {
			t.Fatal(e)
		}
		sound(t, "merged of merged", s, m, true)
		all, _ := ingest.Join(l, other)
		all, _ = ingest.Join(all, all)
		equal(t, "merged of merged", m, built(t, s, all...), true)
		tells(t, "merged of merged", m, built(t, s, all...), true)
	}
}
