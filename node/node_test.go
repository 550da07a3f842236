package node_test

import (
	"math"
	"math/rand"
	"slices"
	"testing"

	"pithead/agg"
	"pithead/api"
	"pithead/node"
)

const most, least = math.MaxInt64, math.MinInt64

// shape is one of two dimensions, the first one of two tiers, and one measure.
func shape() api.Shape { return api.Shape{Sizes: [][]int{{3, 2}, {4}}, Measures: 1} }

// one is the aggregate of a row.
func one(v int64) api.Agg {
	a, _ := agg.Of(v)
	return a
}

// led is a cell that leads to a node, sum one of an aggregate.
func led(key, child int) api.Cell { return api.Cell{Key: key, Child: child} }

func sum(key int, v int64) api.Cell { return api.Cell{Key: key, Agg: one(v)} }

// inner is a node of the first dimension, leaf one of the last.
func inner() api.Node {
	return api.Node{Dim: 0, Lists: [][]api.Cell{{led(0, 4), led(2, 0)}, {led(1, 7)}}, All: led(0, 9)}
}

func leaf() api.Node {
	return api.Node{Dim: 1, Lists: [][]api.Cell{{sum(0, 5), sum(1, -2), sum(3, 0)}}, All: api.Cell{Agg: api.Agg{Count: 3, M: [3]api.Part{{Sum: 3, Min: -2, Max: 5}}}}}
}

// changed is a node behind a change.
func changed(n api.Node, change func(n *api.Node)) api.Node {
	change(&n)
	return n
}

// equal says by loops of its own what Same is to say.
func equal(a, b api.Node) bool {
	if a.Dim != b.Dim || a.All != b.All || len(a.Lists) != len(b.Lists) {
		return false
	}
	for k := range a.Lists {
		if len(a.Lists[k]) != len(b.Lists[k]) {
			return false
		}
		for i := range a.Lists[k] {
			if a.Lists[k][i] != b.Lists[k][i] {
				return false
			}
		}
	}
	return true
}

// roomy is the same node, with room behind each list's end that holds cells of 55.
func roomy(n api.Node) api.Node {
	lists := make([][]api.Cell, len(n.Lists), len(n.Lists)+1)
	for k, l := range n.Lists {
		lists[k] = append(slices.Clone(l), led(55, 55), led(55, 55))[:len(l)]
	}
	lists[:len(n.Lists)+1][len(n.Lists)] = []api.Cell{led(55, 55)}
	n.Lists = lists
	return n
}

// untouched tells whether a roomy node is as it was, the room behind its lists' ends included.
func untouched(n, as api.Node) bool {
	for _, l := range n.Lists {
		for _, c := range l[len(l):cap(l)][:2] {
			if c != led(55, 55) {
				return false
			}
		}
	}
	behind := n.Lists[:len(n.Lists)+1][len(n.Lists)]
	return equal(n, as) && len(behind) == 1 && behind[0] == led(55, 55)
}

// spoil changes all of a node's lists, the room behind their ends included.
func spoil(n api.Node) {
	for k, l := range n.Lists {
		for i := range l[:cap(l)] {
			l[:cap(l)][i] = led(77, 77)
		}
		n.Lists[k] = nil
	}
}

func TestP24_1_Last(t *testing.T) {
	for _, c := range []struct {
		dims, dim int
		want      bool
	}{
		{2, 1, true}, {2, 0, false}, {2, 2, false}, {2, -1, false}, {1, 0, true}, {1, 1, false},
		{16, 15, true}, {16, 14, false}, {0, -1, true}, {0, 0, false}, {0, 1, false}, {3, most, false}, {3, least, false}, {0, least, false},
	} {
		if got := node.Last(api.Shape{Sizes: make([][]int, c.dims)}, c.dim); got != c.want {
			t.Errorf("Last of %d dimensions, %d = %v", c.dims, c.dim, got)
		}
	}
	if !node.Last(api.Shape{}, -1) || node.Last(api.Shape{Measures: 1}, 0) {
		t.Error("Last of no dimensions")
	}
}

// checkCase is a node, and what Check says.
type checkCase struct {
	name string
	n    api.Node
	e    api.Errno
}

func check(t *testing.T, x api.Shape, l []checkCase) {
	t.Helper()
	for _, c := range l {
		n := roomy(c.n)
		if e := node.Check(x, n); e != c.e {
			t.Errorf("%s: Check = %v, want %v", c.name, e, c.e)
		}
		if !untouched(n, c.n) {
			t.Errorf("%s: Check has changed the node", c.name)
		}
	}
}

func TestP24_1_CheckInner(t *testing.T) {
	lists := func(l ...[]api.Cell) api.Node {
		return changed(inner(), func(n *api.Node) { n.Lists = l })
	}
	cell := func(c api.Cell) api.Node { return lists([]api.Cell{c}, []api.Cell{led(0, 0)}) }
	all := func(c api.Cell) api.Node { return changed(inner(), func(n *api.Node) { n.All = c }) }
	check(t, shape(), []checkCase{
		{"a node", inner(), api.OK},
		{"all members", lists([]api.Cell{led(0, 0), led(1, 0), led(2, 0)}, []api.Cell{led(0, 0), led(1, 0)}), api.OK},
		{"lists of one length", lists([]api.Cell{led(0, 0), led(1, 0)}, []api.Cell{led(0, 0), led(1, 0)}), api.OK},
		{"children far away", changed(cell(led(2, most)), func(n *api.Node) { n.All.Child = most }), api.OK},

		{"a dimension below 0", changed(inner(), func(n *api.Node) { n.Dim = -1 }), api.ErrArg},
		{"a dimension far below 0", changed(inner(), func(n *api.Node) { n.Dim = least }), api.ErrArg},
		{"one dimension beyond", changed(inner(), func(n *api.Node) { n.Dim = 2 }), api.ErrArg},
		{"a dimension far beyond", changed(inner(), func(n *api.Node) { n.Dim = most }), api.ErrArg},
		{"another dimension's tiers", changed(inner(), func(n *api.Node) { n.Dim = 1 }), api.ErrArg},
		{"nothing", api.Node{}, api.ErrArg},
		{"one list too few", lists([]api.Cell{led(0, 0)}), api.ErrArg},
		{"one list too many", lists([]api.Cell{led(0, 0)}, []api.Cell{led(0, 0)}, []api.Cell{led(0, 0)}), api.ErrArg},
		{"one list too many, and no members", lists([]api.Cell{led(9, 0)}, []api.Cell{led(9, 0)}, []api.Cell{led(9, 0)}), api.ErrArg},

		{"an empty list", lists(nil, []api.Cell{led(0, 0)}), api.ErrArg},
		{"an empty second list", lists([]api.Cell{led(0, 0)}, []api.Cell{}), api.ErrArg},
		{"no member, and then an empty list", lists([]api.Cell{led(3, 0)}, nil), api.ErrMember},
		{"a key below 0", cell(led(-1, 0)), api.ErrMember},
		{"a key far below 0", cell(led(least, 0)), api.ErrMember},
		{"one key beyond", cell(led(3, 0)), api.ErrMember},
		{"a key far beyond", cell(led(most, 0)), api.ErrMember},
		{"a key of the finer tier alone", lists([]api.Cell{led(0, 0)}, []api.Cell{led(2, 0)}), api.ErrMember},
		{"no member, which falls too", lists([]api.Cell{led(1, 0), led(-1, 0)}, []api.Cell{led(0, 0)}), api.ErrMember},
		{"no member, and a cell that may not be", cell(led(3, -1)), api.ErrMember},

		{"a key twice", lists([]api.Cell{led(1, 0), led(1, 0)}, []api.Cell{led(0, 0)}), api.ErrOrder},
		{"keys that fall", lists([]api.Cell{led(2, 0), led(1, 0)}, []api.Cell{led(0, 0)}), api.ErrOrder},
		{"keys that fall in the second list", lists([]api.Cell{led(0, 0), led(1, 0)}, []api.Cell{led(1, 0), led(0, 0)}), api.ErrOrder},
		{"keys that fall, and a cell that may not be", lists([]api.Cell{led(2, 0), led(1, -1)}, []api.Cell{led(0, 0)}), api.ErrOrder},
		{"keys that fall, and then no member", lists([]api.Cell{led(2, 0), led(1, 0), led(9, 0)}, []api.Cell{led(0, 0)}), api.ErrOrder},

		{"a child below 0", cell(led(1, -1)), api.ErrArg},
		{"an aggregate", cell(api.Cell{Agg: one(1)}), api.ErrArg},
		{"a count alone", cell(api.Cell{Agg: api.Agg{Count: 1}}), api.ErrArg},
		{"a further measure's least alone", cell(api.Cell{Agg: api.Agg{M: [3]api.Part{{}, {}, {Min: 1}}}}), api.ErrArg},
		{"a cell that may not be, and then keys that fall", lists([]api.Cell{led(1, -1), led(0, 0)}, []api.Cell{led(0, 0)}), api.ErrArg},
		{"a cell that may not be, and then no member", lists([]api.Cell{led(1, -1)}, []api.Cell{led(9, 0)}), api.ErrArg},

		{"a longer second list", lists([]api.Cell{led(0, 0)}, []api.Cell{led(0, 0), led(1, 0)}), api.ErrTree},
		{"a longer second list, keys that fall", lists([]api.Cell{led(0, 0)}, []api.Cell{led(1, 0), led(0, 0)}), api.ErrOrder},
		{"a longer second list, a cell that may not be", lists([]api.Cell{led(0, 0)}, []api.Cell{led(0, 0), led(1, -1)}), api.ErrArg},
		{"a longer second list, all that may not be", changed(lists([]api.Cell{led(0, 0)}, []api.Cell{led(0, 0), led(1, 0)}), func(n *api.Node) { n.All.Child = -1 }), api.ErrTree},

		{"all with a key", all(led(1, 0)), api.ErrArg},
		{"all with a key below 0", all(led(-1, 0)), api.ErrArg},
		{"all with a child below 0", all(led(0, -1)), api.ErrArg},
		{"all with an aggregate", all(sum(0, 1)), api.ErrArg},
		{"all that may not be, and no member", changed(cell(led(3, 0)), func(n *api.Node) { n.All.Key = 1 }), api.ErrMember},
	})
}

func TestP24_1_CheckLeaf(t *testing.T) {
	cell := func(c api.Cell) api.Node {
		return changed(leaf(), func(n *api.Node) { n.Lists = [][]api.Cell{{c}} })
	}
	all := func(c api.Cell) api.Node { return changed(leaf(), func(n *api.Node) { n.All = c }) }
	with := func(count int64, p ...api.Part) api.Cell {
		c := api.Cell{Agg: api.Agg{Count: count}}
		copy(c.Agg.M[:], p)
		return c
	}
	bad := map[string]api.Cell{
		"no rows":             {},
		"less than no rows":   with(-1, api.Part{}),
		"one row, two values": with(1, api.Part{Sum: 3, Min: 1, Max: 2}),
		"the least above":     with(2, api.Part{Sum: 3, Min: 2, Max: 1}),
		"a further measure":   with(1, api.Part{}, api.Part{Sum: 1, Min: 1, Max: 1}),
		"a child":             {Child: 1, Agg: one(1)},
		"a child below 0":     {Child: -1, Agg: one(1)},
	}
	l := []checkCase{
		{"a node", leaf(), api.OK},
		{"another cell", cell(sum(3, most)), api.OK},
		{"all with a key", all(sum(1, 1)), api.ErrArg},
		{"one key beyond", cell(sum(4, 1)), api.ErrMember},
		{"an empty list", changed(leaf(), func(n *api.Node) { n.Lists = [][]api.Cell{{}} }), api.ErrArg},
		{"keys that fall", changed(leaf(), func(n *api.Node) { n.Lists = [][]api.Cell{{sum(1, 0), sum(0, 0)}} }), api.ErrOrder},
	}
	for name, c := range bad {
		l = append(l, checkCase{name, cell(c), api.ErrArg}, checkCase{"all: " + name, all(c), api.ErrArg})
	}
	check(t, shape(), l)
}

// TestP24_1_CheckShapes: also of shapes that no schema has.
func TestP24_1_CheckShapes(t *testing.T) {
	n := api.Node{Lists: [][]api.Cell{{sum(0, 1)}}, All: sum(0, 1)}
	none := api.Node{Lists: [][]api.Cell{{{Agg: api.Agg{Count: 2}}}}, All: api.Cell{Agg: api.Agg{Count: 2}}}
	for _, c := range []struct {
		name string
		x    api.Shape
		n    api.Node
		e    api.Errno
	}{
		{"one dimension", api.Shape{Sizes: [][]int{{1}}, Measures: 1}, n, api.OK},
		{"a huge tier", api.Shape{Sizes: [][]int{{most}}, Measures: 1}, n, api.OK},
		{"no measures", api.Shape{Sizes: [][]int{{1}}}, none, api.OK},
		{"no measures, a value", api.Shape{Sizes: [][]int{{1}}}, n, api.ErrArg},
		{"less than no measures", api.Shape{Sizes: [][]int{{1}}, Measures: -1}, none, api.ErrArg},
		{"four measures", api.Shape{Sizes: [][]int{{1}}, Measures: 4}, none, api.ErrArg},
		{"no dimensions", api.Shape{Measures: 1}, n, api.ErrArg},
		{"no dimensions, and one below 0", api.Shape{Measures: 1}, api.Node{Dim: -1}, api.ErrArg},
		{"no tiers", api.Shape{Sizes: [][]int{{}}, Measures: 1}, api.Node{All: sum(0, 1)}, api.ErrArg},
		{"no tiers, nil", api.Shape{Sizes: [][]int{nil, {1}}, Measures: 1}, api.Node{}, api.ErrArg},
		{"an empty tier", api.Shape{Sizes: [][]int{{0}}, Measures: 1}, n, api.ErrMember},
		{"a tier of less than none", api.Shape{Sizes: [][]int{{least}}, Measures: 1}, n, api.ErrMember},
		{"a coarser tier of more, and a longer list", api.Shape{Sizes: [][]int{{1, 2}}, Measures: 1}, api.Node{Lists: [][]api.Cell{{sum(0, 1)}, {sum(0, 1), sum(1, 1)}}, All: sum(0, 1)}, api.ErrTree},
		{"a third list longer than the second one", api.Shape{Sizes: [][]int{{3, 3, 3}, {1}}}, api.Node{Lists: [][]api.Cell{{{}, led(1, 0), led(2, 0)}, {{}}, {{}, led(1, 0)}}}, api.ErrTree},
	} {
		if e := node.Check(c.x, c.n); e != c.e {
			t.Errorf("%s: Check = %v, want %v", c.name, e, c.e)
		}
	}
}

func TestP24_2_Find(t *testing.T) {
	n := roomy(inner())
	for _, c := range []struct {
		p    api.Pos
		want api.Cell
		is   bool
	}{
		{api.Pos{Tier: 0, Key: 0}, led(0, 4), true},
		{api.Pos{Tier: 0, Key: 2}, led(2, 0), true},
		{api.Pos{Tier: 1, Key: 1}, led(1, 7), true},
		{api.Pos{Tier: -1}, led(0, 9), true},
		{api.Pos{Tier: -1, Key: 5}, led(0, 9), true},
		{api.Pos{Tier: least, Key: least}, led(0, 9), true},
		{api.Pos{Tier: 0, Key: 1}, api.Cell{}, false},
		{api.Pos{Tier: 0, Key: 3}, api.Cell{}, false},
		{api.Pos{Tier: 0, Key: -1}, api.Cell{}, false},
		{api.Pos{Tier: 0, Key: 55}, api.Cell{}, false},
		{api.Pos{Tier: 0, Key: most}, api.Cell{}, false},
		{api.Pos{Tier: 0, Key: least}, api.Cell{}, false},
		{api.Pos{Tier: 1, Key: 0}, api.Cell{}, false},
		{api.Pos{Tier: 2, Key: 0}, api.Cell{}, false},
		{api.Pos{Tier: 2, Key: 55}, api.Cell{}, false},
		{api.Pos{Tier: most, Key: 0}, api.Cell{}, false},
	} {
		if got, is := node.Find(n, c.p); got != c.want || is != c.is {
			t.Errorf("Find(%v) = %v, %v, want %v, %v", c.p, got, is, c.want, c.is)
		}
	}
	if !untouched(n, inner()) {
		t.Error("Find has changed the node")
	}
}

func TestP24_2_FindWithoutLists(t *testing.T) {
	for _, lists := range [][][]api.Cell{nil, {}} {
		for _, p := range []api.Pos{{Tier: -1}, {}, {Tier: 1}, {Tier: -1, Key: 1}} {
			if got, is := node.Find(api.Node{Lists: lists, All: sum(0, 3)}, p); is || got != (api.Cell{}) {
				t.Errorf("Find(%v) = %v, %v", p, got, is)
			}
		}
	}
	empty := api.Node{Lists: [][]api.Cell{nil}, All: sum(0, 3)}
	if got, is := node.Find(empty, api.Pos{}); is || got != (api.Cell{}) {
		t.Errorf("Find of an empty list = %v, %v", got, is)
	}
	if got, is := node.Find(empty, api.Pos{Tier: -1}); !is || got != sum(0, 3) {
		t.Errorf("Find of all, beside an empty list = %v, %v", got, is)
	}
}

// TestP24_2_FindOfMany finds each of many, and none between them.
func TestP24_2_FindOfMany(t *testing.T) {
	var l []api.Cell
	for i := range 100 {
		l = append(l, led(2*i, i))
	}
	for key := -1; key < 202; key++ {
		got, is := node.Find(api.Node{Lists: [][]api.Cell{{{}}, l}}, api.Pos{Tier: 1, Key: key})
		want := key >= 0 && key < 200 && key%2 == 0
		if is != want || is && got != led(key, key/2) || !is && got != (api.Cell{}) {
			t.Errorf("Find(%d) = %v, %v", key, got, is)
		}
	}
}

func TestP24_2_EachAndCount(t *testing.T) {
	for _, c := range []struct {
		n    api.Node
		want []api.Cell
	}{
		{inner(), []api.Cell{led(0, 4), led(2, 0), led(1, 7), led(0, 9)}},
		{leaf(), []api.Cell{sum(0, 5), sum(1, -2), sum(3, 0), leaf().All}},
		{api.Node{All: led(0, 3)}, []api.Cell{led(0, 3)}},
		{api.Node{Lists: [][]api.Cell{}}, []api.Cell{{}}},
		{api.Node{Lists: [][]api.Cell{nil, {led(5, 5)}, {}}, All: led(0, 3)}, []api.Cell{led(5, 5), led(0, 3)}},
		{api.Node{Lists: [][]api.Cell{{led(5, 5)}, {led(5, 5), led(4, 4)}}, All: led(6, 6)}, []api.Cell{led(5, 5), led(5, 5), led(4, 4), led(6, 6)}},
	} {
		n := roomy(c.n)
		a, b := node.Each(n), node.Each(n)
		if !slices.Equal(a, c.want) || node.Count(n) != len(c.want) {
			t.Errorf("Each = %v, Count = %d, want %v", a, node.Count(n), c.want)
		}
		for i := range a[:cap(a)] {
			a[:cap(a)][i] = led(77, 77)
		}
		if !untouched(n, c.n) || !slices.Equal(b, c.want) {
			t.Error("what Each answers shares something")
		}
	}
	if n := (api.Node{Lists: [][]api.Cell{{sum(0, 1)}}, All: sum(0, 1)}); node.Count(n) != 2 {
		t.Error("one tier and one cell: no Count of 2")
	}
}

func TestP24_2_Clone(t *testing.T) {
	for _, want := range []api.Node{inner(), leaf(), {}, {Dim: -3, Lists: [][]api.Cell{{}, {led(9, -9)}}, All: led(8, 8)}} {
		n := roomy(want)
		a, b := node.Clone(n), node.Clone(n)
		if !equal(a, want) {
			t.Errorf("Clone = %v, want %v", a, want)
		}
		spoil(a)
		if !untouched(n, want) || !equal(b, want) {
			t.Error("a clone shares something")
		}
		spoil(n)
		if !equal(b, want) {
			t.Error("a clone hangs on what it is of")
		}
		for k, l := range b.Lists {
			for i := range l[:cap(l)] {
				l[:cap(l)][i] = led(77, 77)
			}
			for j := k + 1; j < len(want.Lists); j++ {
				if !slices.Equal(b.Lists[j], want.Lists[j]) {
					t.Error("two lists of a clone share something")
				}
			}
		}
	}
}

func TestP24_2_Same(t *testing.T) {
	for _, n := range []api.Node{inner(), leaf(), {}} {
		if !node.Same(n, roomy(n)) || !node.Same(roomy(n), n) {
			t.Errorf("%v is not the same", n)
		}
	}
	if !node.Same(api.Node{Lists: [][]api.Cell{}}, api.Node{}) || !node.Same(api.Node{Lists: [][]api.Cell{nil}}, api.Node{Lists: [][]api.Cell{{}}}) {
		t.Error("nil and empty lists are not the same")
	}
	for name, change := range map[string]func(n *api.Node){
		"a dimension":      func(n *api.Node) { n.Dim++ },
		"a list more":      func(n *api.Node) { n.Lists = append(n.Lists, nil) },
		"a list less":      func(n *api.Node) { n.Lists = n.Lists[:1] },
		"a cell more":      func(n *api.Node) { n.Lists[1] = append(n.Lists[1], api.Cell{}) },
		"a cell less":      func(n *api.Node) { n.Lists[0] = n.Lists[0][:1] },
		"lists turned":     func(n *api.Node) { n.Lists[0], n.Lists[1] = n.Lists[1], n.Lists[0] },
		"cells turned":     func(n *api.Node) { slices.Reverse(n.Lists[0]) },
		"a key":            func(n *api.Node) { n.Lists[0][1].Key++ },
		"a child":          func(n *api.Node) { n.Lists[1][0].Child++ },
		"a count":          func(n *api.Node) { n.Lists[0][0].Agg.Count++ },
		"a greatest":       func(n *api.Node) { n.Lists[0][0].Agg.M[2].Max++ },
		"all's key":        func(n *api.Node) { n.All.Key++ },
		"all's child":      func(n *api.Node) { n.All.Child++ },
		"all's sum":        func(n *api.Node) { n.All.Agg.M[0].Sum++ },
		"nothing is there": func(n *api.Node) { *n = api.Node{} },
	} {
		if n := changed(inner(), change); node.Same(n, inner()) || node.Same(inner(), n) {
			t.Errorf("%s makes no difference", name)
		}
	}
}

func TestP24_2_Single(t *testing.T) {
	n := roomy(changed(inner(), func(n *api.Node) { n.Lists = append(n.Lists, nil) }))
	for tier, want := range map[int]bool{0: false, 1: true, 2: false, 3: false, 4: false, -1: false, most: false, least: false} {
		if got := node.Single(n, tier); got != want {
			t.Errorf("Single(%d) = %v", tier, got)
		}
	}
	if node.Single(api.Node{All: led(0, 1)}, 0) || node.Single(api.Node{}, -1) {
		t.Error("Single without lists")
	}
	if node.Single(api.Node{Lists: [][]api.Cell{{led(0, 0)}}}, -1) {
		t.Error("Single of all")
	}
}

// TestP24_3_Found: what Check lets be is found by each of its cells, and by nothing else.
func TestP24_3_Found(t *testing.T) {
	r := rand.New(rand.NewSource(24))
	x := api.Shape{Sizes: [][]int{{6, 4, 2}, {1}}, Measures: 1}
	may := 0
	for range 20000 {
		n := api.Node{Dim: 0, All: led(0, r.Intn(9))}
		for _, size := range x.Sizes[0] {
			var l []api.Cell
			for range 1 + r.Intn(size) {
				l = append(l, led(r.Intn(size+1), r.Intn(9)))
			}
			if r.Intn(4) > 0 {
				slices.SortFunc(l, func(a, b api.Cell) int { return a.Key - b.Key })
			}
			n.Lists = append(n.Lists, l)
		}
		if node.Check(x, n) != api.OK {
			continue
		}
		may++
		found := 1
		for k, size := range x.Sizes[0] {
			for _, c := range n.Lists[k] {
				if got, is := node.Find(n, api.Pos{Tier: k, Key: c.Key}); !is || got != c {
					t.Fatalf("%v: %v of tier %d is not found", n, c, k)
				}
			}
			for key := range size {
				if _, is := node.Find(n, api.Pos{Tier: k, Key: key}); is {
					found++
				}
			}
		}
		if found != node.Count(n) {
			t.Fatalf("%v: %d are found", n, found)
		}
	}
	if may < 100 {
		t.Errorf("only %d nodes may be", may)
	}
}

// TestP24_2_ByHand: nothing that is made by hand makes a call not end.
func TestP24_2_ByHand(t *testing.T) {
	falling := api.Node{Dim: most, Lists: [][]api.Cell{{led(9, 0), led(3, 0), led(3, 1), led(-1, 0)}, nil}, All: led(least, most)}
	for key := -2; key < 11; key++ {
		node.Find(falling, api.Pos{Key: key})
	}
	if node.Count(falling) != 5 || !node.Same(falling, node.Clone(falling)) || len(node.Each(falling)) != 5 {
		t.Error("a node made by hand")
	}
}
