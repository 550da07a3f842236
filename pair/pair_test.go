package pair_test

import (
	"fmt"
	"math"
	"math/rand"
	"slices"
	"testing"

	"pithead/agg"
	"pithead/api"
	"pithead/arena"
	"pithead/build"
	"pithead/ingest"
	"pithead/node"
	"pithead/pair"
)

const most, least = math.MaxInt64, math.MinInt64

// one is the fact of a row of one measure.
func one(v int64, keys ...int) api.Fact {
	a, _ := agg.Of(v)
	return api.Fact{Keys: keys, Agg: a}
}

// named are so many members, or tiers, or dimensions, which rise.
func named(n int) []string {
	l := make([]string, n)
	for i := range l {
		l[i] = fmt.Sprintf("m%03d", i)
	}
	return l
}

// tiers is a dimension of tiers, of which each tells under which of the next one its members stand; the last one has so many.
func tiers(name string, top int, ups ...[]int) api.Dim {
	d := api.Dim{Name: name}
	for k, up := range ups {
		d.Tiers = append(d.Tiers, api.Tier{Name: named(9)[k], Terms: named(len(up)), Up: up})
	}
	d.Tiers = append(d.Tiers, api.Tier{Name: "top", Terms: named(top)})
	return d
}

// flat is a schema of dimensions of one tier.
func flat(sizes ...int) api.Schema {
	s := api.Schema{Measures: []string{"m"}}
	for d, n := range sizes {
		s.Dims = append(s.Dims, tiers(named(16)[d], n))
	}
	return s
}

func built(t *testing.T, s api.Schema, l ...api.Fact) *arena.Arena {
	t.Helper()
	a, e := build.Build(s, api.MaxNodes, l...)
	if a == nil || e != api.OK {
		t.Fatalf("Build = %v, %v", a, e)
	}
	return a
}

func loaded(t *testing.T, x api.Shape, l ...api.Node) *arena.Arena {
	t.Helper()
	a, e := arena.Load(x, l...)
	if a == nil || e != api.OK {
		t.Fatalf("Load = %v, %v", a, e)
	}
	return a
}

// wantNodes: an arena has just these nodes.
func wantNodes(t *testing.T, name string, a *arena.Arena, want []api.Node) {
	t.Helper()
	got := a.Nodes()
	if len(got) != len(want) {
		t.Fatalf("%s: %d nodes, want %d", name, len(got), len(want))
	}
	for i, n := range got {
		if !node.Same(n, want[i]) {
			t.Fatalf("%s: node %d = %v, want %v", name, i, n, want[i])
		}
	}
}

// merged is two cubes merged, which must do.
func merged(t *testing.T, a, b *arena.Arena) *arena.Arena {
	t.Helper()
	m, e := pair.Merge(a, b, api.MaxNodes)
	if m == nil || e != api.OK {
		t.Fatalf("Merge = %v, %v", m, e)
	}
	return m
}

// led is a cell that leads to a node, sum one of an aggregate.
func led(key, child int) api.Cell { return api.Cell{Key: key, Child: child} }

func sum(key int, v ...int64) api.Cell {
	var all api.Agg
	for _, n := range v {
		all, _ = agg.Join(all, one(n).Agg)
	}
	return api.Cell{Key: key, Agg: all}
}

// list is cells of a list, which stand by their Keys.
func list(l ...api.Cell) []api.Cell { return l }

// single is the shape of a dimension of tiers.
func single(sizes ...int) api.Shape { return api.Shape{Sizes: [][]int{sizes}, Measures: 1} }

// leaf is a cube of one dimension, of one node: a list of each tier, and all.
func leaf(t *testing.T, x api.Shape, all api.Cell, lists ...[]api.Cell) *arena.Arena {
	t.Helper()
	return loaded(t, x, api.Node{Lists: lists, All: all})
}

// TestP30_1_Cells: of each tier, by rising Keys, the cells of both, those of one Key joined; and that of all likewise.
func TestP30_1_Cells(t *testing.T) {
	x := single(9, 4)
	a := leaf(t, x, sum(0, 1, 2, 4), list(sum(1, 1), sum(4, 2), sum(5, 4)), list(sum(0, 1), sum(3, 2, 4)))
	b := leaf(t, x, sum(0, 8, -16), list(sum(0, 8), sum(4, -16)), list(sum(0, 8, -16)))
	want := []api.Node{{
		Lists: [][]api.Cell{list(sum(0, 8), sum(1, 1), sum(4, 2, -16), sum(5, 4)), list(sum(0, 1, 8, -16), sum(3, 2, 4))},
		All:   sum(0, 1, 2, 4, 8, -16),
	}}
	wantNodes(t, "a, b", merged(t, a, b), want)
	wantNodes(t, "b, a", merged(t, b, a), want)
	twice := []api.Node{{
		Lists: [][]api.Cell{list(sum(0, 8, 8), sum(4, -16, -16)), list(sum(0, 8, 8, -16, -16))},
		All:   sum(0, 8, 8, -16, -16),
	}}
	wantNodes(t, "b, b", merged(t, b, b), twice)
}

// TestP30_1_Measures: of all measures the sums, the least and the greatest, and the counts.
func TestP30_1_Measures(t *testing.T) {
	x := api.Shape{Sizes: [][]int{{1}}, Measures: 3}
	p := api.Agg{Count: 2, M: [3]api.Part{{Sum: 5, Min: 1, Max: 4}, {Sum: -3, Min: -2, Max: -1}, {Sum: 9, Min: 4, Max: 5}}}
	q := api.Agg{Count: 3, M: [3]api.Part{{Sum: 7, Min: 2, Max: 9}, {Sum: 1, Min: -8, Max: 0}, {Sum: -6, Min: -3, Max: 3}}}
	both := api.Agg{Count: 5, M: [3]api.Part{{Sum: 12, Min: 1, Max: 9}, {Sum: -2, Min: -8, Max: 0}, {Sum: 3, Min: -3, Max: 5}}}
	a, b := leaf(t, x, api.Cell{Agg: p}, list(api.Cell{Agg: p})), leaf(t, x, api.Cell{Agg: q}, list(api.Cell{Agg: q}))
	wantNodes(t, "three measures", merged(t, a, b), []api.Node{{Lists: [][]api.Cell{{{Agg: both}}}, All: api.Cell{Agg: both}}})
}

// TestP30_1_Pairs: a Key that one has not leads to the node of the pair of that Child and none; each pair has one node.
func TestP30_1_Pairs(t *testing.T) {
	s := flat(3, 2)
	a := built(t, s, one(1, 0, 0), one(2, 1, 1)) // nodes 0, 1, that of all 2
	b := built(t, s, one(4, 1, 0))               // node 0, which is that of all, too
	wantNodes(t, "a, b", merged(t, a, b), []api.Node{
		{Dim: 1, Lists: [][]api.Cell{{sum(0, 1)}}, All: sum(0, 1)},
		{Dim: 1, Lists: [][]api.Cell{{sum(0, 4), sum(1, 2)}}, All: sum(0, 4, 2)},
		{Dim: 1, Lists: [][]api.Cell{{sum(0, 1, 4), sum(1, 2)}}, All: sum(0, 1, 4, 2)},
		{Lists: [][]api.Cell{{led(0, 0), led(1, 1)}}, All: led(0, 2)},
	})
	c := built(t, s, one(8, 2, 1))
	wantNodes(t, "b, c", merged(t, b, c), []api.Node{ // the places are the same in both, the pairs are not
		{Dim: 1, Lists: [][]api.Cell{{sum(0, 4)}}, All: sum(0, 4)},
		{Dim: 1, Lists: [][]api.Cell{{sum(1, 8)}}, All: sum(0, 8)},
		{Dim: 1, Lists: [][]api.Cell{{sum(0, 4), sum(1, 8)}}, All: sum(0, 4, 8)},
		{Lists: [][]api.Cell{{led(1, 0), led(2, 1)}}, All: led(0, 2)},
	})
	wantNodes(t, "b, b", merged(t, b, b), []api.Node{ // one pair, to which two cells lead
		{Dim: 1, Lists: [][]api.Cell{{sum(0, 4, 4)}}, All: sum(0, 4, 4)},
		{Lists: [][]api.Cell{{led(1, 0)}}, All: led(0, 0)},
	})
}

// TestP30_1_ByPlaces: pairs are of places: nodes that tell the same at two places are two.
func TestP30_1_ByPlaces(t *testing.T) {
	x := api.Shape{Sizes: [][]int{{2}, {1}}, Measures: 1}
	low := func(v ...int64) api.Node {
		return api.Node{Dim: 1, Lists: [][]api.Cell{{sum(0, v...)}}, All: sum(0, v...)}
	}
	up := func(first, second, all int) api.Node {
		return api.Node{Lists: [][]api.Cell{{led(0, first), led(1, second)}}, All: led(0, all)}
	}
	a := loaded(t, x, low(1), low(1), up(1, 0, 1))
	b := loaded(t, x, low(2), up(0, 0, 0))
	wantNodes(t, "a, b", merged(t, a, b), []api.Node{low(1, 2), low(1, 2), up(0, 1, 0)})
	wantNodes(t, "b, a", merged(t, b, a), []api.Node{low(1, 2), low(1, 2), up(0, 1, 0)})
	none := loaded(t, x)
	wantNodes(t, "a, none", merged(t, a, none), []api.Node{low(1), low(1), up(0, 1, 0)})
	wantNodes(t, "none, a", merged(t, none, a), []api.Node{low(1), low(1), up(0, 1, 0)})
}

// TestP30_1_WithNone: merged with one without nodes a cube stays as it is.
func TestP30_1_WithNone(t *testing.T) {
	r := rand.New(rand.NewSource(301))
	for range 60 {
		s := randomSchema(r)
		a, none := built(t, s, randomFacts(r, s, 1+r.Intn(20))...), built(t, s)
		wantNodes(t, "a, none", merged(t, a, none), a.Nodes())
		wantNodes(t, "none, a", merged(t, none, a), a.Nodes())
		both := merged(t, none, none)
		if both.Len() != 0 || !both.Whole() || !slices.EqualFunc(both.Shape().Sizes, a.Shape().Sizes, slices.Equal) || both.Shape().Measures != a.Shape().Measures {
			t.Fatalf("none, none: %v, %v", both.Nodes(), both.Shape())
		}
	}
	for _, n := range []int{0, 1, api.MaxNodes} {
		if m, e := pair.Merge(built(t, flat(2)), built(t, flat(2)), n); e != api.OK || m.Len() != 0 {
			t.Errorf("none, none, at most %d: %v", n, e)
		}
	}
}

// TestP30_1_Errors: which of several errors comes first.
func TestP30_1_Errors(t *testing.T) {
	a := built(t, flat(2, 2), one(1, 0, 0))
	copied := *a
	parts := built(t, flat(2, 2), one(1, 0, 0))
	first, _ := parts.Node(0)
	if _, e := parts.Add(first); e != api.OK {
		t.Fatal(e)
	}
	wide, long := built(t, flat(2, 3), one(1, 0, 0)), built(t, flat(2, 2, 2), one(1, 0, 0, 0))
	turned := built(t, flat(3, 2), one(1, 0, 0))
	two := flat(2, 2)
	two.Measures = []string{"m", "n"}
	tall := flat(2, 2)
	tall.Dims[1] = tiers("e", 1, []int{0, 0})
	great := built(t, flat(2, 2), one(most, 0, 0))
	for _, c := range []struct {
		name string
		a, b *arena.Arena
		most int
		e    api.Errno
	}{
		{"nil", nil, a, 9, api.ErrNil},
		{"and nil", a, nil, 9, api.ErrNil},
		{"nil and nil", nil, nil, 9, api.ErrNil},
		{"plain", &arena.Arena{}, a, 9, api.ErrNil},
		{"and plain", a, &arena.Arena{}, 9, api.ErrNil},
		{"a copy", &copied, a, 9, api.ErrNil},
		{"and a copy", a, &copied, 9, api.ErrNil},
		{"not whole, and nil, less than no nodes", parts, nil, -1, api.ErrNil},
		{"nil, and not whole, less than no nodes", nil, parts, -1, api.ErrNil},
		{"not whole", parts, a, 9, api.ErrArg},
		{"and not whole", a, parts, 9, api.ErrArg},
		{"not whole, and none", parts, built(t, flat(2, 2)), 9, api.ErrArg},
		{"unlike sizes", a, wide, 9, api.ErrArg},
		{"unlike sizes, turned", wide, a, 9, api.ErrArg},
		{"unlike sizes of the first dimension", a, turned, 9, api.ErrArg},
		{"unlike dimensions", a, long, 9, api.ErrArg},
		{"unlike dimensions, turned", long, a, 9, api.ErrArg},
		{"unlike measures", a, built(t, two), 9, api.ErrArg},
		{"unlike tiers", a, built(t, tall), 9, api.ErrArg},
		{"unlike shapes, both without nodes", built(t, flat(2, 2)), built(t, flat(2, 3)), 9, api.ErrArg},
		{"less than no nodes", a, a, -1, api.ErrArg},
		{"far less than no nodes, of none", built(t, flat(2)), built(t, flat(2)), least, api.ErrArg},
		{"too many nodes", a, a, api.MaxNodes + 1, api.ErrArg},
		{"far too many nodes, a sum too great", great, great, most, api.ErrArg},
		{"as many nodes as can be", a, a, api.MaxNodes, api.OK},
		{"a sum too great", great, a, 9, api.ErrOver},
		{"no nodes", a, a, 0, api.ErrFull},
		{"a node too few", a, a, 1, api.ErrFull},
		{"just as many nodes", a, a, 2, api.OK},
	} {
		m, e := pair.Merge(c.a, c.b, c.most)
		if e != c.e || (m == nil) != (e != api.OK) {
			t.Errorf("%s: Merge = %v, %v, want %v", c.name, m, e, c.e)
		}
	}
}

// TestP30_1_Over: sums and counts that do not fit, in a cell of any tier, or in that of all alone.
func TestP30_1_Over(t *testing.T) {
	x := single(3, 2)
	many := func(n int64) api.Cell { return api.Cell{Agg: api.Agg{Count: n}} }
	under := func(key int, c api.Cell) api.Cell { c.Key = key; return c }
	of := func(finest, above int, c api.Cell) *arena.Arena {
		return leaf(t, x, c, list(under(finest, c)), list(under(above, c)))
	}
	small := func(finest, above int, all api.Cell) *arena.Arena {
		return leaf(t, x, all, list(sum(finest, 1)), list(sum(above, 1)))
	}
	for _, c := range []struct {
		name string
		a, b *arena.Arena
		e    api.Errno
	}{
		{"just fitting", of(0, 0, sum(0, most-1)), of(0, 0, sum(0, 1)), api.OK},
		{"too great", of(0, 0, sum(0, most)), of(0, 0, sum(0, 1)), api.ErrOver},
		{"too small", of(0, 0, sum(0, least)), of(0, 0, sum(0, -1)), api.ErrOver},
		{"just small enough", of(0, 0, sum(0, least)), of(0, 0, sum(0, 0)), api.OK},
		{"too great in the coarser tier", of(0, 0, sum(0, most)), of(1, 0, sum(0, 1)), api.ErrOver},
		{"too great in all", of(0, 0, sum(0, most)), of(1, 1, sum(0, 1)), api.ErrOver},
		{"too great in all alone", small(0, 0, sum(0, most)), small(1, 1, sum(0, 1)), api.ErrOver},
		{"too many rows", of(0, 0, many(most)), of(0, 0, many(1)), api.ErrOver},
		{"as many rows as can be", of(0, 0, many(most-1)), of(0, 0, many(1)), api.OK},
	} {
		if m, e := pair.Merge(c.a, c.b, 9); e != c.e || (m == nil) != (e != api.OK) {
			t.Errorf("%s: Merge = %v, %v, want %v", c.name, m, e, c.e)
		}
	}
}

// TestP30_1_WhicheverComesFirst: a sum that does not fit, no room for a node, or a node that the arena refuses.
func TestP30_1_WhicheverComesFirst(t *testing.T) {
	s := flat(2, 2)
	// The nodes come so: that of the place 0, that of the place 1, that of both, the top.
	a := built(t, s, one(most, 0, 0), one(0, 1, 1))
	early := built(t, s, one(1, 0, 0))
	late := built(t, s, one(1, 1, 0))
	x := api.Shape{Sizes: [][]int{{2}, {3, 3}}, Measures: 1}
	odd := func(key int, first, second api.Cell) *arena.Arena { // merged with another one's the first node has a longer list behind a shorter one
		low := api.Node{Dim: 1, Lists: [][]api.Cell{{sum(0, 1)}, {sum(key, 1)}}, All: first}
		return loaded(t, x, low, api.Node{Dim: 1, Lists: [][]api.Cell{{sum(0, 1)}, {sum(0, 1)}}, All: second}, api.Node{Lists: [][]api.Cell{{led(0, 0), led(1, 1)}}, All: led(0, 1)})
	}
	one, great := sum(0, 1), sum(0, most)
	for _, c := range []struct {
		name string
		a, b *arena.Arena
		most int
		e    api.Errno
	}{
		{"the first node's sum, no room for it", a, early, 0, api.ErrOver},
		{"the first node's sum", a, early, 1, api.ErrOver},
		{"no room for the first node, the third one's sum", a, late, 0, api.ErrFull},
		{"no room for the second node, the third one's sum", a, late, 1, api.ErrFull},
		{"the third node's sum, no room for it", a, late, 2, api.ErrOver},
		{"the third node's sum", a, late, 3, api.ErrOver},
		{"a longer list, no room", odd(1, one, one), odd(2, one, one), 0, api.ErrTree},
		{"a longer list", odd(1, one, one), odd(2, one, one), 9, api.ErrTree},
		{"a longer list, the second node's sum", odd(1, one, great), odd(2, one, great), 9, api.ErrTree},
		{"a longer list, its node's sum", odd(1, great, one), odd(2, one, one), 9, api.ErrOver},
		{"no longer list", odd(1, one, one), odd(1, one, one), 3, api.OK},
		{"no longer list, the second node's sum", odd(1, one, great), odd(1, one, one), 9, api.ErrOver},
		{"no room for the first node, the second one's sum", odd(1, one, great), odd(1, one, one), 0, api.ErrFull},
	} {
		m, e := pair.Merge(c.a, c.b, c.most)
		if e != c.e || (m == nil) != (e != api.OK) {
			t.Errorf("%s: Merge = %v, %v, want %v", c.name, m, e, c.e)
		}
	}
}

// TestP30_1_Most: an arena that was merged has room for as many nodes as it was said, and no more.
func TestP30_1_Most(t *testing.T) {
	a := built(t, flat(2, 2), one(5, 0, 0))
	for _, b := range []*arena.Arena{a, built(t, flat(2, 2))} {
		m, e := pair.Merge(a, b, 3)
		if e != api.OK {
			t.Fatal(e)
		}
		n, _ := m.Node(0)
		if at, e := m.Add(n); at != 2 || e != api.OK {
			t.Errorf("Add = %d, %v", at, e)
		}
		if _, e := m.Add(n); e != api.ErrFull {
			t.Errorf("Add of a fourth one = %v", e)
		}
	}
}

// randomSchema is of some dimensions of some tiers, randomFacts are some of its facts.
func randomSchema(r *rand.Rand) api.Schema {
	s := api.Schema{Measures: named(1 + r.Intn(3))}
	for d := range 1 + r.Intn(4) {
		var ups [][]int
		size := 1 + r.Intn(6)
		for range r.Intn(4) {
			above := 1 + r.Intn(size)
			up := make([]int, size)
			for i := range up {
				up[i] = r.Intn(above)
				if i < above {
					up[i] = i // each one comes
				}
			}
			r.Shuffle(size, func(i, j int) { up[i], up[j] = up[j], up[i] })
			ups = append(ups, up)
			size = above
		}
		s.Dims = append(s.Dims, tiers(named(9)[d], size, ups...))
	}
	return s
}

func randomFacts(r *rand.Rand, s api.Schema, n int) []api.Fact {
	var l []api.Fact
	for range n {
		var f api.Fact
		for _, d := range s.Dims {
			f.Keys = append(f.Keys, r.Intn(len(d.Tiers[0].Terms)))
		}
		for range 1 + r.Intn(2) {
			var values []int64
			for range s.Measures {
				values = append(values, int64(r.Intn(19)-9))
			}
			a, _ := agg.Of(values...)
			f.Agg, _ = agg.Join(f.Agg, a)
		}
		l = append(l, f)
	}
	l, _ = ingest.Any(l...)
	return l
}

// randomShape is of some dimensions of some tiers; randomNode is a node of it, whose cells lead to any of some nodes.
func randomShape(r *rand.Rand) api.Shape {
	x := api.Shape{Measures: 1 + r.Intn(2)}
	for range 1 + r.Intn(4) {
		sizes := []int{1 + r.Intn(5)}
		for range r.Intn(3) {
			sizes = append(sizes, 1+r.Intn(sizes[len(sizes)-1]))
		}
		x.Sizes = append(x.Sizes, sizes)
	}
	return x
}

func randomNode(r *rand.Rand, x api.Shape, dim, from, to int) api.Node {
	cell := func(key int) api.Cell {
		if dim < len(x.Sizes)-1 {
			return led(key, from+r.Intn(to-from))
		}
		values := []int64{int64(r.Intn(9) - 4), int64(r.Intn(9))}
		if r.Intn(60) == 0 {
			values[0] = most
		}
		a, _ := agg.Of(values[:x.Measures]...)
		return api.Cell{Key: key, Agg: a}
	}
	n := api.Node{Dim: dim}
	many := 1 + r.Intn(x.Sizes[dim][0])
	for _, size := range x.Sizes[dim] {
		many = 1 + r.Intn(min(many, size))
		var l []api.Cell
		for _, key := range slices.Sorted(slices.Values(r.Perm(size)[:many])) {
			l = append(l, cell(key))
		}
		n.Lists = append(n.Lists, l)
	}
	n.All = cell(0)
	return n
}

// randomWhole is a whole arena that no facts led to, of nodes in whatever order.
func randomWhole(t *testing.T, r *rand.Rand, x api.Shape) *arena.Arena {
	t.Helper()
	if r.Intn(20) == 0 {
		return loaded(t, x)
	}
	var l []api.Node
	from, to := 0, 0
	for dim := len(x.Sizes) - 1; dim >= 0; dim-- {
		many := 1
		if dim > 0 {
			many = 1 + r.Intn(4)
		}
		for range many {
			l = append(l, randomNode(r, x, dim, from, to))
		}
		from, to = to, len(l)
	}
	return loaded(t, x, ledTo(x, l)...)
}

// ledTo is those of some nodes that the last one leads to, and itself, in the same order.
func ledTo(x api.Shape, l []api.Node) []api.Node {
	is := make([]bool, len(l))
	is[len(l)-1] = true
	for i := len(l) - 1; i >= 0; i-- {
		if !is[i] || node.Last(x, l[i].Dim) {
			continue
		}
		for _, c := range node.Each(l[i]) {
			is[c.Child] = true
		}
	}
	moved := make([]int, len(l))
	var left []api.Node
	for i, n := range l {
		if !is[i] {
			continue
		}
		if !node.Last(x, n.Dim) {
			for _, cells := range n.Lists {
				for k := range cells {
					cells[k].Child = moved[cells[k].Child]
				}
			}
			n.All.Child = moved[n.All.Child]
		}
		moved[i] = len(left)
		left = append(left, n)
	}
	return left
}

// model merges as the document says it, in another way: Key by Key, whether there is a cell or not; pairs stand in a list.
type model struct {
	x     api.Shape
	a, b  []api.Node
	most  int
	nodes []api.Node
	pairs [][2]int
	tree  bool // a node had a longer list behind a shorter one
	over  bool
	full  bool
}

func (m *model) failed() bool { return m.tree || m.over || m.full }

func find(l []api.Node, at, tier, key int) (api.Cell, bool) {
	if at < 0 {
		return api.Cell{}, false
	}
	return node.Find(l[at], api.Pos{Tier: tier, Key: key})
}

func (m *model) node(p [2]int) int {
	if at := slices.Index(m.pairs, p); at >= 0 || m.failed() {
		return at
	}
	dim := 0
	if p[0] >= 0 {
		dim = m.a[p[0]].Dim
	} else {
		dim = m.b[p[1]].Dim
	}
	n := api.Node{Dim: dim}
	for k, size := range m.x.Sizes[dim] {
		var l []api.Cell
		for key := range size {
			if c, is := m.cell(p, k, key); is {
				l = append(l, c)
			}
		}
		n.Lists = append(n.Lists, l)
	}
	n.All, _ = m.cell(p, -1, 0)
	if m.failed() {
		return 0
	}
	m.tree = !slices.IsSortedFunc(n.Lists, func(a, b []api.Cell) int { return len(b) - len(a) })
	m.full = !m.tree && len(m.nodes) >= m.most
	m.nodes, m.pairs = append(m.nodes, n), append(m.pairs, p)
	return len(m.nodes) - 1
}

func (m *model) cell(p [2]int, tier, key int) (api.Cell, bool) {
	c, ofA := find(m.a, p[0], tier, key)
	d, ofB := find(m.b, p[1], tier, key)
	if m.failed() || !ofA && !ofB {
		return api.Cell{}, false
	}
	if g, fits := agg.Join(c.Agg, d.Agg); g.Count > 0 || !fits {
		m.over = !fits
		return api.Cell{Key: key, Agg: g}, fits
	}
	to := [2]int{-1, -1}
	if ofA {
		to[0] = c.Child
	}
	if ofB {
		to[1] = d.Child
	}
	return led(key, m.node(to)), true
}

func (m *model) err() api.Errno {
	switch {
	case m.tree:
		return api.ErrTree
	case m.over:
		return api.ErrOver
	case m.full:
		return api.ErrFull
	}
	return api.OK
}

// TestP30_1_AsTheModel holds what comes of random arenas, made by hand, node by node against a model.
func TestP30_1_AsTheModel(t *testing.T) {
	r := rand.New(rand.NewSource(30))
	came := map[api.Errno]int{}
	for range 4000 {
		x := randomShape(r)
		a, b := randomWhole(t, r, x), randomWhole(t, r, x)
		m := &model{x: x, a: a.Nodes(), b: b.Nodes(), most: []int{api.MaxNodes, r.Intn(30)}[r.Intn(2)]}
		if a.Len()+b.Len() > 0 {
			m.node([2]int{a.Top(), b.Top()})
		}
		got, e := pair.Merge(a, b, m.most)
		if e != m.err() || (got == nil) != (e != api.OK) {
			t.Fatalf("Merge = %v, want %v", e, m.err())
		}
		came[e]++
		if e == api.OK {
			wantNodes(t, "made by hand", got, m.nodes)
			if !got.Whole() {
				t.Fatal("what was merged is not whole")
			}
		}
	}
	for _, e := range []api.Errno{api.OK, api.ErrTree, api.ErrOver, api.ErrFull} {
		if came[e] < 100 {
			t.Errorf("%v came %d times only", e, came[e])
		}
	}
}

// TestP30_1_Memory: what is handed in stays as it was, and shares nothing with what comes of it.
func TestP30_1_Memory(t *testing.T) {
	s := flat(2, 2)
	a, b, none := built(t, s, one(1, 0, 0), one(2, 1, 1)), built(t, s, one(4, 1, 0)), built(t, s)
	ofA, ofB := a.Nodes(), b.Nodes()
	for name, do := range map[string]func() (*arena.Arena, api.Errno){
		"Merge":              func() (*arena.Arena, api.Errno) { return pair.Merge(a, b, 99) },
		"Merge with itself":  func() (*arena.Arena, api.Errno) { return pair.Merge(a, a, 99) },
		"Merge with none":    func() (*arena.Arena, api.Errno) { return pair.Merge(a, none, 99) },
		"Merge of none":      func() (*arena.Arena, api.Errno) { return pair.Merge(none, none, 99) },
		"Merge, no room":     func() (*arena.Arena, api.Errno) { return pair.Merge(a, b, 2) },
		"Many of one":        func() (*arena.Arena, api.Errno) { return pair.Many(99, a) },
		"Many of one, none":  func() (*arena.Arena, api.Errno) { return pair.Many(99, none) },
		"Many of three":      func() (*arena.Arena, api.Errno) { return pair.Many(99, none, a, b) },
		"Many of one, again": func() (*arena.Arena, api.Errno) { return pair.Many(99, a, a, a) },
	} {
		m, _ := do()
		if m == a || m == b || m == none {
			t.Errorf("%s: an arena that was handed in", name)
		}
		m.Add(api.Node{Dim: 1, Lists: [][]api.Cell{{sum(0, 1)}}, All: sum(0, 1)})
		wantNodes(t, name, a, ofA)
		wantNodes(t, name, b, ofB)
		wantNodes(t, name, none, nil)
	}
	given := []*arena.Arena{a, b, none, nil}
	pair.Many(99, given[:3]...)
	if !slices.Equal(given, []*arena.Arena{a, b, none, nil}) {
		t.Error("Many has changed its list")
	}
}

// TestP30_2_Errors: of none, and arena by arena.
func TestP30_2_Errors(t *testing.T) {
	a := built(t, flat(2, 2), one(1, 0, 0))
	other := built(t, flat(2, 3), one(1, 0, 0))
	great := built(t, flat(2, 2), one(most, 0, 0))
	parts := built(t, flat(2, 2), one(1, 0, 0))
	first, _ := parts.Node(0)
	parts.Add(first)
	copied := *a
	for _, c := range []struct {
		name string
		most int
		l    []*arena.Arena
		e    api.Errno
	}{
		{"none", 9, nil, api.ErrArg},
		{"none, less than no nodes", -1, nil, api.ErrArg},
		{"none, too many nodes", api.MaxNodes + 1, []*arena.Arena{}, api.ErrArg},
		{"nil", 9, []*arena.Arena{nil}, api.ErrNil},
		{"plain", 9, []*arena.Arena{{}}, api.ErrNil},
		{"a copy", 9, []*arena.Arena{&copied}, api.ErrNil},
		{"not whole", 9, []*arena.Arena{parts}, api.ErrArg},
		{"not whole, then nil", 9, []*arena.Arena{a, parts, nil}, api.ErrArg},
		{"nil, then not whole", 9, []*arena.Arena{a, nil, parts}, api.ErrNil},
		{"nil at last, less than no nodes", -1, []*arena.Arena{a, a, a, nil}, api.ErrNil},
		{"nil at last, unlike shapes", 9, []*arena.Arena{a, other, a, nil}, api.ErrNil},
		{"nil at last, a sum too great", 9, []*arena.Arena{great, a, nil}, api.ErrNil},
		{"not whole at last, a sum too great", 9, []*arena.Arena{great, a, parts}, api.ErrArg},
		{"unlike shapes", 9, []*arena.Arena{a, other}, api.ErrArg},
		{"unlike shapes at last", 9, []*arena.Arena{a, a, other}, api.ErrArg},
		{"less than no nodes", -1, []*arena.Arena{a, a}, api.ErrArg},
		{"a sum too great, then unlike shapes", 9, []*arena.Arena{great, a, a, other}, api.ErrOver},
		{"unlike shapes, then a sum too great", 9, []*arena.Arena{a, other, great, a}, api.ErrArg},
		{"no room, then a sum too great", 1, []*arena.Arena{a, a, great, a}, api.ErrFull},
		{"no room", 1, []*arena.Arena{a, a, a}, api.ErrFull},
		{"just as many nodes", 2, []*arena.Arena{a, a, a}, api.OK},
	} {
		m, e := pair.Many(c.most, c.l...)
		if e != c.e || (m == nil) != (e != api.OK) {
			t.Errorf("%s: Many = %v, %v, want %v", c.name, m, e, c.e)
		}
	}
}

// TestP30_2_One: one cube stays as it is, whatever the most, in new memory.
func TestP30_2_One(t *testing.T) {
	x := api.Shape{Sizes: [][]int{{2}, {1}}, Measures: 1}
	low := func(v int64) api.Node {
		return api.Node{Dim: 1, Lists: [][]api.Cell{{sum(0, v)}}, All: sum(0, v)}
	}
	// Its nodes do not stand as they come.
	a := loaded(t, x, low(1), low(2), api.Node{Lists: [][]api.Cell{{led(0, 1), led(1, 0)}}, All: led(0, 1)})
	for _, n := range []int{99, 3, 2, 0, -1, least, most} {
		m, e := pair.Many(n, a)
		if e != api.OK || m == a {
			t.Fatalf("Many of one, at most %d: %v", n, e)
		}
		wantNodes(t, "one", m, a.Nodes())
	}
	none, e := pair.Many(0, loaded(t, x))
	if e != api.OK || none.Len() != 0 || !slices.EqualFunc(none.Shape().Sizes, x.Sizes, slices.Equal) {
		t.Errorf("Many of one without nodes: %v", e)
	}
}

// TestP30_2_TwoByTwo: the first and the second, the third and the fourth, the last one staying: sums tell which came together.
func TestP30_2_TwoByTwo(t *testing.T) {
	for _, c := range []struct {
		name string
		l    []int64
		e    api.Errno
	}{
		{"two", []int64{most, 1}, api.ErrOver},
		{"three, the first two fit", []int64{most, -1, 1}, api.OK},
		{"three, the first two do not fit", []int64{most, 1, -1}, api.ErrOver},
		{"three, the last two do not fit", []int64{-1, most, 1}, api.OK},
		{"four, two by two they fit", []int64{most, 0, 1, -1}, api.OK},
		{"four, the last two do not fit", []int64{-5, 0, most, 1}, api.ErrOver},
		{"four, the middle ones do not fit", []int64{-5, most, 1, -7}, api.OK},
		{"five, the last one stays", []int64{-1, 0, 0, 0, most}, api.OK},
		{"five, the last one stays twice", []int64{-2, 0, 0, most, 2}, api.OK},
		{"five, the last two do not fit", []int64{0, 1, 0, -1, most}, api.OK},
		{"six, the first four do not fit", []int64{most, 0, 1, 0, -1, 0}, api.ErrOver},
		{"six, the last four do not fit", []int64{-1, 0, most, 0, 1, 0}, api.OK},
		{"seven", []int64{-1, 0, 0, 0, most, 0, 1}, api.ErrOver},
	} {
		var l []*arena.Arena
		for _, v := range c.l {
			l = append(l, built(t, flat(1), one(v, 0)))
		}
		m, e := pair.Many(9, l...)
		if e != c.e || (m == nil) != (e != api.OK) {
			t.Errorf("%s: Many = %v, want %v", c.name, e, c.e)
			continue
		}
		if e == api.OK {
			slices.Sort(c.l) // from the least on the sums fit
			wantNodes(t, c.name, m, []api.Node{{Lists: [][]api.Cell{{sum(0, c.l...)}}, All: sum(0, c.l...)}})
		}
	}
}

// parts are facts in so many parts, of which some have facts of one tuple.
func parts(r *rand.Rand, s api.Schema, many int) ([][]api.Fact, []api.Fact) {
	var l [][]api.Fact
	var all []api.Fact
	for range many {
		some := randomFacts(r, s, r.Intn(12))
		l = append(l, some)
		all, _ = ingest.Join(all, some)
	}
	return l, all
}

// TestP30_3_TheCubeOfAll: the cubes of parts of the facts, merged, are the cube of all, node by node.
func TestP30_3_TheCubeOfAll(t *testing.T) {
	r := rand.New(rand.NewSource(303))
	for range 600 {
		s := randomSchema(r)
		l, all := parts(r, s, 2)
		want := built(t, s, all...)
		a, b := built(t, s, l[0]...), built(t, s, l[1]...)
		wantNodes(t, "a, b", merged(t, a, b), want.Nodes())
		wantNodes(t, "b, a", merged(t, b, a), want.Nodes())
		if m, e := pair.Merge(a, b, want.Len()); e != api.OK || m.Len() != want.Len() {
			t.Fatalf("Merge of at most %d: %v", want.Len(), e)
		}
		if n := want.Len() - 1; n >= 0 {
			if m, e := pair.Merge(a, b, n); m != nil || e != api.ErrFull {
				t.Fatalf("Merge of at most %d: %v", n, e)
			}
		}
	}
}

// TestP30_3_Many: likewise of many parts, two by two, and one by one.
func TestP30_3_Many(t *testing.T) {
	r := rand.New(rand.NewSource(304))
	for range 150 {
		s := randomSchema(r)
		l, all := parts(r, s, 1+r.Intn(9))
		want := built(t, s, all...).Nodes()
		var cubes []*arena.Arena
		one := built(t, s)
		for _, some := range l {
			cubes = append(cubes, built(t, s, some...))
			one = merged(t, one, cubes[len(cubes)-1])
		}
		m, e := pair.Many(api.MaxNodes, cubes...)
		if e != api.OK {
			t.Fatal(e)
		}
		wantNodes(t, "two by two", m, want)
		wantNodes(t, "one by one", one, want)
	}
}

// TestP30_3_Sixteen: two facts, of 16 dimensions of four tiers.
func TestP30_3_Sixteen(t *testing.T) {
	s := api.Schema{Measures: []string{"m"}}
	for d := range api.MaxDims {
		s.Dims = append(s.Dims, tiers(named(16)[d], 1, []int{0, 1, 2, 3}, []int{0, 1, 1, 0}, []int{0, 0}))
	}
	keys := func(n int) []int { return slices.Repeat([]int{n}, api.MaxDims) }
	a, b := one(5, keys(1)...), one(-3, keys(3)...)
	wantNodes(t, "apart", merged(t, built(t, s, b), built(t, s, a)), built(t, s, a, b).Nodes())
	both, _ := ingest.Any(a, one(-3, keys(1)...))
	wantNodes(t, "one tuple", merged(t, built(t, s, a), built(t, s, one(-3, keys(1)...))), built(t, s, both...).Nodes())
}
