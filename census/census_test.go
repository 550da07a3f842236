package census_test

import (
	"fmt"
	"math/rand"
	"slices"
	"testing"

	"pithead/agg"
	"pithead/api"
	"pithead/arena"
	"pithead/build"
	"pithead/census"
	"pithead/node"
)

// one is the fact of a row of one measure.
func one(v int64, keys ...int) api.Fact {
	a, _ := agg.Of(v)
	return api.Fact{Keys: keys, Agg: a}
}

// named are so many texts, which rise.
func named(n int) []string {
	l := make([]string, n)
	for i := range l {
		l[i] = fmt.Sprintf("m%03d", i)
	}
	return l
}

// schema is of dimensions of two tiers, of so many members and half as many.
func schema(sizes ...int) api.Schema {
	s := api.Schema{Measures: []string{"m"}}
	for d, n := range sizes {
		low, up := api.Tier{Name: "low", Terms: named(n)}, api.Tier{Name: "up", Terms: named((n + 1) / 2)}
		for i := range n {
			low.Up = append(low.Up, i/2)
		}
		s.Dims = append(s.Dims, api.Dim{Name: named(16)[d], Tiers: []api.Tier{low, up}})
	}
	return s
}

// plain is of dimensions of one tier.
func plain(sizes ...int) api.Schema {
	s := schema(sizes...)
	for d := range s.Dims {
		s.Dims[d].Tiers = []api.Tier{{Name: "low", Terms: s.Dims[d].Tiers[0].Terms}}
	}
	return s
}

func built(t *testing.T, s api.Schema, l ...api.Fact) *arena.Arena {
	t.Helper()
	a, e := build.Build(s, api.MaxNodes, l...)
	if a == nil || e != api.OK {
		t.Fatalf("Build = %v, %v", a, e)
	}
	return a
}

// random are some facts of a schema, rising.
func random(r *rand.Rand, s api.Schema, n int) []api.Fact {
	var l []api.Fact
	for range n {
		f := one(int64(r.Intn(99)))
		for _, d := range s.Dims {
			f.Keys = append(f.Keys, r.Intn(len(d.Tiers[0].Terms)))
		}
		l = append(l, f)
	}
	slices.SortFunc(l, func(a, b api.Fact) int { return slices.Compare(a.Keys, b.Keys) })
	return slices.CompactFunc(l, func(a, b api.Fact) bool { return slices.Equal(a.Keys, b.Keys) })
}

// shape is of so many dimensions of one tier of 200 members.
func shape(dims int) api.Shape {
	return api.Shape{Sizes: slices.Repeat([][]int{{200}}, dims), Measures: 1}
}

// broad is a node of so many members, whose cells all lead to one; of the last of so many dimensions of aggregates.
func broad(dims, dim, members, to int) api.Node {
	c := api.Cell{Child: to}
	if dim == dims-1 {
		c = api.Cell{Agg: one(1).Agg}
	}
	n := api.Node{Dim: dim, All: c, Lists: [][]api.Cell{nil}}
	for key := range members {
		c.Key = key
		n.Lists[0] = append(n.Lists[0], c)
	}
	return n
}

func loaded(t *testing.T, x api.Shape, l ...api.Node) *arena.Arena {
	t.Helper()
	a, e := arena.Load(x, l...)
	if a == nil || e != api.OK {
		t.Fatalf("Load = %v, %v", a, e)
	}
	return a
}

// want: an arena is counted so.
func want(t *testing.T, name string, a *arena.Arena, of api.Census, trees, dims []int, shared int) {
	t.Helper()
	before := a.Nodes()
	if got := census.Of(a); got != of {
		t.Errorf("%s: Of = %+v, want %+v", name, got, of)
	}
	if got := census.Trees(a); !slices.Equal(got, trees) {
		t.Errorf("%s: Trees = %v, want %v", name, got, trees)
	}
	if got := census.Dims(a); !slices.Equal(got, dims) {
		t.Errorf("%s: Dims = %v, want %v", name, got, dims)
	}
	if got := census.Shared(a); got != shared {
		t.Errorf("%s: Shared = %d, want %d", name, got, shared)
	}
	if !slices.EqualFunc(before, a.Nodes(), node.Same) {
		t.Errorf("%s: the arena was changed", name)
	}
}

func TestP28_1_ByHand(t *testing.T) {
	two := plain(2, 2)
	want(t, "no facts", built(t, two), api.Census{}, nil, []int{0, 0}, 0)
	want(t, "one fact", built(t, two, one(5, 1, 1)), api.Census{Nodes: 2, Cells: 4, Tree: 6}, []int{2, 6}, []int{1, 1}, 1)
	want(t, "one dimension", built(t, plain(3), one(5, 0), one(6, 2)), api.Census{Nodes: 1, Cells: 3, Tree: 3}, []int{3}, []int{1}, 0)
	want(t, "nothing shared", built(t, two, one(5, 0, 0), one(7, 1, 0)), api.Census{Nodes: 4, Cells: 9, Tree: 9}, []int{2, 2, 2, 9}, []int{1, 3}, 0)
	want(t, "one shared", built(t, two, one(5, 0, 0), one(7, 0, 1)), api.Census{Nodes: 2, Cells: 5, Tree: 8}, []int{3, 8}, []int{1, 1}, 1)
	// Of two tiers each node of one fact has three cells, all of which lead to one node.
	want(t, "one fact of two tiers", built(t, schema(2, 2, 2), one(5, 1, 1, 0)), api.Census{Nodes: 3, Cells: 9, Tree: 39}, []int{3, 12, 39}, []int{1, 1, 1}, 4)
	// The upper tier's only member, and all, lead to the node of both; the members to two others.
	want(t, "two facts of two tiers", built(t, schema(2, 2), one(5, 0, 1), one(7, 1, 1)), api.Census{Nodes: 4, Cells: 13, Tree: 16}, []int{3, 3, 3, 16}, []int{1, 3}, 1)
}

// TestP28_1_NotWhole: nodes that are not led to are counted, too.
func TestP28_1_NotWhole(t *testing.T) {
	leaf, top := broad(2, 1, 3, 0), broad(2, 0, 2, 1)
	want(t, "a leaf alone", loaded(t, shape(2), leaf), api.Census{Nodes: 1, Cells: 4, Tree: 4}, []int{4}, []int{0, 1}, 0)
	want(t, "leaves", loaded(t, shape(2), leaf, leaf, broad(2, 1, 1, 0)), api.Census{Nodes: 3, Cells: 10, Tree: 2}, []int{4, 4, 2}, []int{0, 3}, 0)
	want(t, "two tops and a leaf", loaded(t, shape(2), leaf, leaf, top, top, leaf), api.Census{Nodes: 5, Cells: 18, Tree: 4}, []int{4, 4, 15, 15, 4}, []int{2, 3}, 5)
	mixed := broad(2, 0, 2, 1)
	mixed.Lists[0][0].Child = 0
	want(t, "a node led to once, one twice", loaded(t, shape(2), leaf, broad(2, 1, 1, 0), mixed), api.Census{Nodes: 3, Cells: 9, Tree: 11}, []int{4, 2, 11}, []int{1, 2}, 1)
}

func TestP28_1_NotMade(t *testing.T) {
	for name, a := range map[string]*arena.Arena{"nil": nil, "plain": {}} {
		want(t, name, a, api.Census{}, nil, nil, 0)
	}
}

// TestP28_1_SumsEnd: what is shared may be far more as a tree than can be counted.
func TestP28_1_SumsEnd(t *testing.T) {
	const end = 1 << 50
	for _, members := range []int{200, 1, 2, 13} {
		var l []api.Node
		var trees []int
		sum := 0
		for dim := 15; dim >= 0; dim-- {
			l = append(l, broad(16, dim, members, len(l)-1))
			if sum < end { // so that the product fits
				sum = min((members+1)*(sum+1), end)
			}
			trees = append(trees, sum)
		}
		dims := slices.Repeat([]int{1}, 16)
		of := api.Census{Nodes: 16, Cells: 16 * (members + 1), Tree: trees[15]}
		want(t, fmt.Sprint(members, " members"), loaded(t, shape(16), l...), of, trees, dims, 15*members)
		if (members > 8) != (trees[15] == end) {
			t.Errorf("%d members: the tree has %d cells", members, trees[15])
		}
	}
}

// tree counts a node's cells, and those of all that they lead to, way by way.
func tree(a *arena.Arena, at int) int {
	n, _ := a.Node(at)
	sum := node.Count(n)
	if node.Last(a.Shape(), n.Dim) {
		return sum
	}
	for _, c := range node.Each(n) {
		sum += tree(a, c.Child)
	}
	return sum
}

// TestP28_1_AsATree holds random cubes against walks through them.
func TestP28_1_AsATree(t *testing.T) {
	r := rand.New(rand.NewSource(28))
	for range 60 {
		s := []api.Schema{schema(3), schema(4, 3), schema(2, 3, 4), plain(3, 2, 3, 2), schema(1, 5, 2)}[r.Intn(5)]
		a := built(t, s, random(r, s, r.Intn(12))...)
		of, dims, led, ways := api.Census{Nodes: a.Len()}, make([]int, len(s.Dims)), map[int]bool{}, 0
		var trees []int
		for at, n := range a.Nodes() {
			of.Cells += len(node.Each(n))
			dims[n.Dim]++
			trees = append(trees, tree(a, at))
			of.Tree = trees[at]
			if n.Dim < len(s.Dims)-1 {
				for _, c := range node.Each(n) {
					led[c.Child] = true
					ways++
				}
			}
		}
		want(t, "a random cube", a, of, trees, dims, ways-len(led))
	}
}

// TestP28_2_AtMostAsATree: a whole arena has at most as many cells as its tree.
func TestP28_2_AtMostAsATree(t *testing.T) {
	r := rand.New(rand.NewSource(282))
	shared, not := 0, 0
	for range 200 {
		s := []api.Schema{schema(3, 2), plain(2, 2), schema(2, 3, 4), plain(3, 2, 3, 2), plain(4)}[r.Intn(5)]
		a := built(t, s, random(r, s, r.Intn(12))...)
		c := census.Of(a)
		if !a.Whole() || c.Cells > c.Tree {
			t.Fatalf("Of = %+v", c)
		}
		if (census.Shared(a) == 0) != (c.Cells == c.Tree) {
			t.Fatalf("%d are shared, of %+v", census.Shared(a), c)
		}
		if c.Cells < c.Tree {
			shared++
		} else {
			not++
		}
	}
	if shared < 20 || not < 20 {
		t.Errorf("%d cubes shared something, %d did not", shared, not)
	}
}

// TestP28_1_IsNew: what is answered is new memory.
func TestP28_1_IsNew(t *testing.T) {
	a := built(t, plain(2, 2), one(5, 0, 0), one(7, 0, 1))
	for _, l := range [][]int{census.Trees(a), census.Dims(a)} {
		for i := range l[:cap(l)] {
			l[:cap(l)][i] = 77
		}
	}
	want(t, "behind a change", a, api.Census{Nodes: 2, Cells: 5, Tree: 8}, []int{3, 8}, []int{1, 1}, 1)
}
