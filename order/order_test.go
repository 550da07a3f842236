package order_test

import (
	"fmt"
	"math"
	"math/rand"
	"slices"
	"testing"

	"pithead/agg"
	"pithead/api"
	"pithead/arena"
	"pithead/build"
	"pithead/ingest"
	"pithead/node"
	"pithead/order"
	"pithead/pair"
	"pithead/same"
)

const most, least = math.MaxInt64, math.MinInt64

// one is the fact of a row of one measure.
func one(v int64, keys ...int) api.Fact {
	a, _ := agg.Of(v)
	return api.Fact{Keys: keys, Agg: a}
}

// named are so many texts, which rise.
func named(n int) []string {
	l := make([]string, n)
	for i := range l {
		l[i] = fmt.Sprintf("m%03d", i)
	}
	return l
}

// tiered is a schema of dimensions of two tiers, of so many members and half as many.
func tiered(sizes ...int) api.Schema {
	s := api.Schema{Measures: []string{"m"}}
	for d, n := range sizes {
		low, up := api.Tier{Name: "low", Terms: named(n)}, api.Tier{Name: "up", Terms: named((n + 1) / 2)}
		for i := range n {
			low.Up = append(low.Up, i/2)
		}
		s.Dims = append(s.Dims, api.Dim{Name: named(16)[d], Tiers: []api.Tier{low, up}})
	}
	return s
}

func built(t *testing.T, s api.Schema, l ...api.Fact) *arena.Arena {
	t.Helper()
	a, e := build.Build(s, api.MaxNodes, l...)
	if a == nil || e != api.OK {
		t.Fatalf("Build = %v, %v", a, e)
	}
	return a
}

func loaded(t *testing.T, x api.Shape, l ...api.Node) *arena.Arena {
	t.Helper()
	a, e := arena.Load(x, l...)
	if a == nil || e != api.OK {
		t.Fatalf("Load = %v, %v", a, e)
	}
	return a
}

// led is a cell that leads to a node, sum one of the aggregate of a row.
func led(key, child int) api.Cell { return api.Cell{Key: key, Child: child} }

func sum(key int, v int64) api.Cell { return api.Cell{Key: key, Agg: one(v).Agg} }

// shape is of three dimensions, of which the first two have two tiers.
func shape() api.Shape { return api.Shape{Sizes: [][]int{{3, 3}, {3, 3}, {2}}, Measures: 1} }

// low, mid, high are nodes of the three dimensions: where the cells of the finest tier lead to, those of the other one, and that of all.
func low(v int64) api.Node {
	return api.Node{Dim: 2, Lists: [][]api.Cell{{sum(0, v)}}, All: sum(0, v)}
}

func mid(finest, above []int, all int) api.Node {
	n := api.Node{Dim: 1, Lists: [][]api.Cell{nil, nil}, All: led(0, all)}
	for key, child := range finest {
		n.Lists[0] = append(n.Lists[0], led(key, child))
	}
	for key, child := range above {
		n.Lists[1] = append(n.Lists[1], led(key, child))
	}
	return n
}

func high(finest, above []int, all int) api.Node {
	n := mid(finest, above, all)
	n.Dim = 0
	return n
}

// only are the places that cells lead to.
func only(l ...int) []int { return l }

// notMade are arenas that no call made.
func notMade(t *testing.T) map[string]*arena.Arena {
	t.Helper()
	copied := *built(t, tiered(2, 2), one(1, 0, 1))
	return map[string]*arena.Arena{"nil": nil, "plain": {}, "a copy": &copied}
}

// three is an arena of three dimensions; its node 10 leads to all but the last one.
func three(t *testing.T) *arena.Arena {
	t.Helper()
	return loaded(t, shape(),
		low(0), low(1), low(2), low(3), low(4), low(5),
		mid(only(4, 1, 4), only(0), 5), // 6: by cells of the finest tier, then above, then of all
		mid(only(1), only(2), 2),       // 7
		mid(only(3, 3), only(1, 3), 1), // 8
		mid(only(0), only(0), 0),       // 9
		high(only(8, 6), only(8, 9), 7),
		high(only(9), only(9), 7),
	)
}

func TestP33_1_Visit(t *testing.T) {
	a := three(t)
	before := a.Nodes()
	for top, want := range [][]int{
		{0}, {1}, {2}, {3}, {4}, {5},
		{4, 1, 0, 5, 6},
		{1, 2, 7},
		{3, 1, 8},
		{0, 9},
		{3, 1, 8, 4, 0, 5, 6, 9, 2, 7, 10},
		{0, 9, 1, 2, 7, 11},
	} {
		if l := order.Visit(a, top); !slices.Equal(l, want) {
			t.Errorf("Visit(%d) = %v, want %v", top, l, want)
		}
	}
	for _, top := range []int{-1, 12, 13, least, most} {
		if l := order.Visit(a, top); len(l) != 0 {
			t.Errorf("Visit(%d) = %v", top, l)
		}
	}
	if !slices.EqualFunc(before, a.Nodes(), node.Same) {
		t.Error("the arena was changed")
	}
}

func TestP33_1_NoNode(t *testing.T) {
	l := notMade(t)
	l["without nodes"] = built(t, tiered(2, 2))
	for name, a := range l {
		for _, top := range []int{0, -1, 1, least, most} {
			if l := order.Visit(a, top); len(l) != 0 {
				t.Errorf("%s: Visit(%d) = %v", name, top, l)
			}
		}
	}
}

// TestP33_1_OneDimension: the cells of the last dimension lead nowhere, also where it is the first one.
func TestP33_1_OneDimension(t *testing.T) {
	a := built(t, tiered(3), one(1, 0), one(2, 2))
	first, _ := a.Node(0)
	a.Add(first)
	for _, top := range []int{0, 1} {
		if l := order.Visit(a, top); !slices.Equal(l, []int{top}) {
			t.Errorf("Visit(%d) = %v", top, l)
		}
	}
}

// canon: the nodes that are led to, in their order, each with its cells leading there.
func canon(t *testing.T, a *arena.Arena, top int, want ...api.Node) {
	t.Helper()
	before := a.Nodes()
	c, e := order.Canon(a, top)
	if e != api.OK || c == a {
		t.Fatalf("Canon(%d) = %v", top, e)
	}
	got := c.Nodes()
	if !slices.EqualFunc(got, want, node.Same) {
		t.Errorf("Canon(%d) = %v, want %v", top, got, want)
	}
	if x, y := a.Shape(), c.Shape(); x.Measures != y.Measures || !slices.EqualFunc(x.Sizes, y.Sizes, slices.Equal) {
		t.Errorf("Canon(%d) is of the shape %v", top, y)
	}
	c.Add(want[0])
	if !slices.EqualFunc(before, a.Nodes(), node.Same) {
		t.Errorf("Canon(%d): the arena was changed", top)
	}
}

func TestP33_2_Canon(t *testing.T) {
	a := three(t)
	canon(t, a, 10,
		low(3), low(1), mid(only(0, 0), only(1, 0), 1),
		low(4), low(0), low(5), mid(only(3, 1, 3), only(4), 5),
		mid(only(4), only(4), 4),
		low(2), mid(only(1), only(8), 8),
		high(only(2, 6), only(2, 7), 9))
	canon(t, a, 11, low(0), mid(only(0), only(0), 0), low(1), low(2), mid(only(2), only(3), 3), high(only(1), only(1), 4))
	canon(t, a, 6, low(4), low(1), low(0), low(5), mid(only(0, 1, 0), only(2), 3))
	canon(t, a, 9, low(0), mid(only(0), only(0), 0))
	canon(t, a, 5, low(5))
}

func TestP33_2_Errors(t *testing.T) {
	for name, a := range notMade(t) {
		for _, top := range []int{0, -1, 7, least, most} {
			if c, e := order.Canon(a, top); c != nil || e != api.ErrNil {
				t.Errorf("%s: Canon(%d) = %v, %v", name, top, c, e)
			}
		}
		if order.Is(a) {
			t.Errorf("%s: Is", name)
		}
	}
	for _, top := range []int{-1, 12, 13, least, most} {
		if c, e := order.Canon(three(t), top); c != nil || e != api.ErrRange {
			t.Errorf("Canon(%d) = %v, %v", top, c, e)
		}
	}
	for _, top := range []int{-1, 0} {
		if c, e := order.Canon(built(t, tiered(2, 2)), top); c != nil || e != api.ErrRange {
			t.Errorf("without nodes: Canon(%d) = %v, %v", top, c, e)
		}
	}
}

func TestP33_2_Is(t *testing.T) {
	two := api.Shape{Sizes: [][]int{{3, 3}, {2}}, Measures: 1}
	leaf := func(v int64) api.Node {
		n := low(v)
		n.Dim = 1
		return n
	}
	for _, c := range []struct {
		name string
		x    api.Shape
		l    []api.Node
		want bool
	}{
		{"without nodes", two, nil, true},
		{"one way", two, []api.Node{leaf(1), high(only(0), only(0), 0)}, true},
		{"cell by cell", two, []api.Node{leaf(1), leaf(2), leaf(3), leaf(4), high(only(0, 1), only(2), 3)}, true},
		{"with what came ahead", two, []api.Node{leaf(1), leaf(2), leaf(3), high(only(0, 1, 0), only(1), 2)}, true},
		{"two that tell the same", two, []api.Node{leaf(1), leaf(1), high(only(0), only(1), 0)}, true},
		{"a member behind another one", two, []api.Node{leaf(1), leaf(2), high(only(1, 0), only(0), 0)}, false},
		{"a member behind one above", two, []api.Node{leaf(1), leaf(2), high(only(1), only(0), 0)}, false},
		{"a member behind all", two, []api.Node{leaf(1), leaf(2), high(only(1), only(1), 0)}, false},
		{"one above behind all", two, []api.Node{leaf(1), leaf(2), leaf(3), high(only(0), only(2), 1)}, false},
		{"a leaf alone", two, []api.Node{leaf(1)}, false},
		{"what is not led to", two, []api.Node{leaf(1), leaf(2), high(only(0), only(0), 0)}, false},
		{"what is not led to, ahead", two, []api.Node{leaf(1), leaf(2), high(only(1), only(1), 1)}, false},
		{"behind the last one", two, []api.Node{leaf(1), high(only(0), only(0), 0), leaf(1)}, false},
		{"two tops", two, []api.Node{leaf(1), high(only(0), only(0), 0), high(only(0), only(0), 0)}, false},
		{"in depth", shape(), []api.Node{low(1), mid(only(0), only(0), 0), low(2), mid(only(2), only(0), 2), high(only(1), only(3), 1)}, true},
		{"by dimensions", shape(), []api.Node{low(1), low(2), mid(only(0), only(0), 0), mid(only(1), only(0), 1), high(only(2), only(3), 2)}, false},
	} {
		a := loaded(t, c.x, c.l...)
		if order.Is(a) != c.want {
			t.Errorf("%s: Is = %v", c.name, !c.want)
		}
		if !slices.EqualFunc(a.Nodes(), c.l, node.Same) {
			t.Errorf("%s: the arena was changed", c.name)
		}
	}
	if order.Is(three(t)) {
		t.Error("what has a node that is not led to")
	}
}

// random are some facts of a schema, rising, each tuple once.
func random(r *rand.Rand, s api.Schema, n int) []api.Fact {
	var l []api.Fact
	for range n {
		f := one(int64(r.Intn(9)))
		for _, d := range s.Dims {
			f.Keys = append(f.Keys, r.Intn(len(d.Tiers[0].Terms)))
		}
		l = append(l, f)
	}
	l, _ = ingest.Any(l...)
	return l
}

// stands: an arena stands in its order, and is its own Canon.
func stands(t *testing.T, name string, a *arena.Arena) {
	t.Helper()
	if !order.Is(a) {
		t.Fatalf("%s: Is = false", name)
	}
	for i, at := range order.Visit(a, a.Top()) {
		if i != at {
			t.Fatalf("%s: %d is visited as %d", name, at, i)
		}
	}
	if a.Len() == 0 {
		return
	}
	if c, e := order.Canon(a, a.Top()); e != api.OK || !same.Equal(c, a) {
		t.Fatalf("%s: Canon = %v", name, e)
	}
}

// shuffled is an arena of the same nodes in other places; each stands behind those that it leads to, the last one last.
func shuffled(t *testing.T, r *rand.Rand, a *arena.Arena) *arena.Arena {
	t.Helper()
	b, e := arena.New(a.Shape(), api.MaxNodes)
	if e != api.OK {
		t.Fatal(e)
	}
	places := map[int]int{}
	for b.Len() < a.Len() {
		for _, i := range r.Perm(a.Len()) {
			n, _ := a.Node(i)
			if _, came := places[i]; came || i == a.Top() && b.Len() < i || !ready(a.Shape(), n, places) {
				continue
			}
			if !node.Last(a.Shape(), n.Dim) {
				for _, l := range n.Lists {
					for k := range l {
						l[k].Child = places[l[k].Child]
					}
				}
				n.All.Child = places[n.All.Child]
			}
			at, e := b.Add(n)
			if e != api.OK {
				t.Fatal(e)
			}
			places[i] = at
		}
	}
	return b
}

// ready: did all come that a node leads to?
func ready(x api.Shape, n api.Node, places map[int]int) bool {
	if node.Last(x, n.Dim) {
		return true
	}
	for _, c := range node.Each(n) {
		if _, came := places[c.Child]; !came {
			return false
		}
	}
	return true
}

// TestP33_3_Order: built and merged cubes stand in that order; the Canon of a whole arena tells the same, and stands in it.
func TestP33_3_Order(t *testing.T) {
	r := rand.New(rand.NewSource(33))
	other := 0
	for range 300 {
		s := []api.Schema{tiered(5), tiered(4, 3), tiered(3, 2, 3), tiered(2, 2, 2, 2), tiered(4, 1, 4)}[r.Intn(5)]
		a, b := built(t, s, random(r, s, r.Intn(12))...), built(t, s, random(r, s, r.Intn(12))...)
		stands(t, "built", a)
		m, e := pair.Merge(a, b, api.MaxNodes)
		if e != api.OK {
			t.Fatal(e)
		}
		stands(t, "merged", m)
		if m.Len() == 0 {
			continue
		}
		odd := shuffled(t, r, m)
		if order.Is(odd) != same.Equal(odd, m) {
			t.Fatalf("in other places: Is = %v", order.Is(odd))
		}
		if !order.Is(odd) {
			other++
		}
		c, e := order.Canon(odd, odd.Top())
		if e != api.OK || !same.Equal(c, m) || !same.Tells(c, odd) {
			t.Fatalf("in other places: Canon = %v", e)
		}
		if twice, e := pair.Merge(odd, built(t, s), api.MaxNodes); e != api.OK || !same.Equal(twice, c) {
			t.Fatalf("in other places, merged with none: %v", e)
		}
		stands(t, "the Canon", c)
	}
	if other < 100 {
		t.Errorf("only %d stood in other places", other)
	}
}

// twos is an arena of two nodes a dimension, of one at the top; each has 200 cells, which lead to both of the dimension behind by turns, the second one first.
func twos(t *testing.T, dims int) *arena.Arena {
	t.Helper()
	a, e := arena.New(api.Shape{Sizes: slices.Repeat([][]int{{200}}, dims), Measures: 1}, 2*dims)
	if e != api.OK {
		t.Fatal(e)
	}
	for i := range 2*dims - 1 {
		n := api.Node{Dim: dims - 1 - i/2, Lists: [][]api.Cell{{sum(0, int64(i))}}, All: sum(0, int64(i))}
		if behind := i/2*2 - 2; behind >= 0 {
			n.Lists[0], n.All = nil, led(0, behind)
			for key := range 200 {
				n.Lists[0] = append(n.Lists[0], led(key, behind+1-key%2))
			}
		}
		if _, e := a.Add(n); e != api.OK {
			t.Fatal(e)
		}
	}
	return a
}

// TestP33_1_Ways: however many ways lead to a node, it is visited once.
func TestP33_1_Ways(t *testing.T) {
	a := twos(t, api.MaxDims)
	if l := order.Visit(a, a.Top()); !slices.Equal(l[:3], []int{1, 0, 3}) || len(l) != a.Len() || order.Is(a) {
		t.Errorf("Visit = %v", l)
	}
	c, e := order.Canon(a, a.Top())
	if e != api.OK || !order.Is(c) || !same.Tells(a, c) {
		t.Errorf("Canon: %v", e)
	}
}
