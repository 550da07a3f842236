package tuples_test

import (
	"fmt"
	"math"
	"math/rand"
	"slices"
	"testing"

	"pithead/agg"
	"pithead/api"
	"pithead/arena"
	"pithead/build"
	"pithead/fact"
	"pithead/ingest"
	"pithead/node"
	"pithead/tuples"
)

const most, least = math.MaxInt64, math.MinInt64

// one is the fact of a row of one measure.
func one(v int64, keys ...int) api.Fact {
	a, _ := agg.Of(v)
	return api.Fact{Keys: keys, Agg: a}
}

// named are so many texts, which rise.
func named(n int) []string {
	l := make([]string, n)
	for i := range l {
		l[i] = fmt.Sprintf("m%03d", i)
	}
	return l
}

// schema is of dimensions of two tiers, of so many members and half as many.
func schema(sizes ...int) api.Schema {
	s := api.Schema{Measures: []string{"m"}}
	for d, n := range sizes {
		low, up := api.Tier{Name: "low", Terms: named(n)}, api.Tier{Name: "up", Terms: named((n + 1) / 2)}
		for i := range n {
			low.Up = append(low.Up, i/2)
		}
		s.Dims = append(s.Dims, api.Dim{Name: named(16)[d], Tiers: []api.Tier{low, up}})
	}
	return s
}

func built(t *testing.T, s api.Schema, l ...api.Fact) *arena.Arena {
	t.Helper()
	a, e := build.Build(s, api.MaxNodes, l...)
	if a == nil || e != api.OK {
		t.Fatalf("Build = %v, %v", a, e)
	}
	return a
}

// random are some facts of a schema, rising.
func random(r *rand.Rand, s api.Schema, n int) []api.Fact {
	var l []api.Fact
	for range n {
		f := one(int64(r.Intn(99)))
		for _, d := range s.Dims {
			f.Keys = append(f.Keys, r.Intn(len(d.Tiers[0].Terms)))
		}
		l = append(l, f)
	}
	slices.SortFunc(l, fact.Compare)
	return slices.CompactFunc(l, func(a, b api.Fact) bool { return fact.Compare(a, b) == 0 })
}

// want: of at most so many these facts are told, and counted, or an error.
func want(t *testing.T, name string, a *arena.Arena, n int, l []api.Fact, count int, e api.Errno) {
	t.Helper()
	if got, err := tuples.Facts(a, n); err != e || !fact.Same(got, l) {
		t.Errorf("%s: Facts of at most %d = %v, %v, want %v, %v", name, n, got, err, l, e)
	}
	if got := tuples.Count(a, n); got != count {
		t.Errorf("%s: Count of at most %d = %d, want %d", name, n, got, count)
	}
}

func TestP29_1_Facts(t *testing.T) {
	l := []api.Fact{one(3, 0, 0, 1), one(5, 0, 2, 0), one(5, 0, 2, 1), one(-4, 1, 1, 3)}
	a := built(t, schema(2, 3, 4), l...)
	before := a.Nodes()
	for _, n := range []int{4, 5, 99, api.MaxFacts, 1 << 40, most - 1, most} {
		want(t, "four facts", a, n, l, 4, api.OK)
	}
	for n := range 4 {
		want(t, "four facts", a, n, nil, n, api.ErrRows)
	}
	for _, n := range []int{-1, -5, least} {
		want(t, "four facts", a, n, nil, 0, api.ErrRows)
	}
	if !slices.EqualFunc(before, a.Nodes(), node.Same) {
		t.Error("the arena was changed")
	}
}

func TestP29_1_NoNodes(t *testing.T) {
	for _, n := range []int{0, 1, -1, 4000, most, least} {
		want(t, "an arena without nodes", built(t, schema(2, 2)), n, nil, 0, api.OK)
	}
}

func TestP29_1_OneDimension(t *testing.T) {
	l := []api.Fact{one(3, 0), one(-5, 4)}
	want(t, "one dimension", built(t, schema(5), l...), 2, l, 2, api.OK)
	want(t, "one dimension", built(t, schema(5), l...), 1, nil, 1, api.ErrRows)
	// Of several rows a fact has them all.
	many := []api.Fact{{Keys: []int{2}, Agg: api.Agg{Count: 3, M: [3]api.Part{{Sum: 9, Min: 1, Max: 5}}}}}
	want(t, "one dimension", built(t, schema(5), many...), 1, many, 1, api.OK)
}

func TestP29_1_NotMade(t *testing.T) {
	for name, a := range map[string]*arena.Arena{"nil": nil, "plain": {}} {
		for _, n := range []int{0, 5, -1} {
			want(t, name, a, n, nil, 0, api.ErrNil)
			for _, at := range []int{0, -1, 7} {
				if l, e := tuples.Under(a, at, n); len(l) != 0 || e != api.ErrNil {
					t.Errorf("%s: Under = %v, %v", name, l, e)
				}
			}
		}
	}
}

// notWhole is a cube of three dimensions with a node behind its last one.
func notWhole(t *testing.T) (*arena.Arena, []api.Fact) {
	t.Helper()
	l := []api.Fact{one(3, 0, 0, 1), one(5, 0, 2, 0), one(7, 1, 2, 0)}
	a := built(t, schema(2, 3, 4), l...)
	n, _ := a.Node(0)
	if _, e := a.Add(n); e != api.OK {
		t.Fatal(e)
	}
	return a, l
}

func TestP29_1_NotWhole(t *testing.T) {
	a, _ := notWhole(t)
	for _, n := range []int{9, 0, -1} {
		want(t, "not whole", a, n, nil, 0, api.ErrArg)
	}
}

// cut are facts that begin with some keys, without these.
func cut(l []api.Fact, keys ...int) []api.Fact {
	var ends []api.Fact
	for _, f := range l {
		if slices.Equal(f.Keys[:len(keys)], keys) {
			ends = append(ends, api.Fact{Keys: f.Keys[len(keys):], Agg: f.Agg})
		}
	}
	return ends
}

// wantUnder: below a node stand these facts, and no error comes but of fewer.
func wantUnder(t *testing.T, a *arena.Arena, at int, l []api.Fact) {
	t.Helper()
	for _, n := range []int{len(l), len(l) + 1, most} {
		if got, e := tuples.Under(a, at, n); e != api.OK || !fact.Same(got, l) {
			t.Errorf("Under(%d) of at most %d = %v, %v, want %v", at, n, got, e, l)
		}
	}
	for _, n := range []int{len(l) - 1, 0, -1, least} {
		if got, e := tuples.Under(a, at, n); e != api.ErrRows || len(got) != 0 {
			t.Errorf("Under(%d) of at most %d = %v, %v", at, n, got, e)
		}
	}
}

// TestP29_2_Under: below the nodes that a fact's places lead through, and below all, also where the arena is not whole.
func TestP29_2_Under(t *testing.T) {
	a, l := notWhole(t)
	top := a.Top() - 1 // behind it stands the node that is not led to
	for _, f := range l {
		at := top
		for d := range 3 {
			wantUnder(t, a, at, cut(l, f.Keys[:d]...))
			n, _ := a.Node(at)
			c, _ := node.Find(n, api.Pos{Key: f.Keys[d]})
			at = c.Child
		}
	}
	all, _ := a.Node(top)
	ends, _ := ingest.Suffix(1, l...) // the last two are one then
	wantUnder(t, a, all.All.Child, ends)
	if len(ends) != 2 {
		t.Errorf("Suffix = %v", ends)
	}
	first, _ := a.Node(0)
	wantUnder(t, a, a.Top(), []api.Fact{{Keys: []int{first.Lists[0][0].Key}, Agg: first.Lists[0][0].Agg}})
}

func TestP29_2_Errors(t *testing.T) {
	a, _ := notWhole(t)
	for _, at := range []int{-1, a.Len(), a.Len() + 1, most, least} {
		for _, n := range []int{9, 0, -1} {
			if l, e := tuples.Under(a, at, n); len(l) != 0 || e != api.ErrRange {
				t.Errorf("Under(%d) of at most %d = %v, %v", at, n, l, e)
			}
		}
	}
	if l, e := tuples.Under(built(t, schema(2)), 0, 9); len(l) != 0 || e != api.ErrRange {
		t.Errorf("Under of an arena without nodes = %v, %v", l, e)
	}
}

// under is the facts that stand under all of a way's members, of the first dimensions.
func under(s api.Schema, l []api.Fact, way []api.Pos) []api.Fact {
	return slices.DeleteFunc(slices.Clone(l), func(f api.Fact) bool {
		for d, p := range way {
			key := f.Keys[d]
			for k := range max(p.Tier, 0) {
				key = s.Dims[d].Tiers[k].Up[key]
			}
			if p.Tier >= 0 && key != p.Key {
				return true
			}
		}
		return false
	})
}

// eachNode goes on from a node by each of its cells, and calls a function with each node, and the way to it.
func eachNode(a *arena.Arena, at int, way []api.Pos, do func(at int, way []api.Pos)) {
	do(at, way)
	n, _ := a.Node(at)
	if node.Last(a.Shape(), n.Dim) {
		return
	}
	for k, l := range n.Lists {
		for _, c := range l {
			eachNode(a, c.Child, append(slices.Clone(way), api.Pos{Tier: k, Key: c.Key}), do)
		}
	}
	eachNode(a, n.All.Child, append(slices.Clone(way), api.Pos{Tier: -1}), do)
}

// TestP29_2_UnderEachWay: below the node of a part stand the part's facts, without the places of the dimensions ahead.
func TestP29_2_UnderEachWay(t *testing.T) {
	r := rand.New(rand.NewSource(292))
	for range 20 {
		s := []api.Schema{schema(3), schema(4, 3), schema(2, 3, 4), schema(2, 2, 2, 2), schema(1, 5, 2)}[r.Intn(5)]
		l := random(r, s, 1+r.Intn(10))
		a := built(t, s, l...)
		eachNode(a, a.Top(), nil, func(at int, way []api.Pos) {
			ends, e := ingest.Suffix(len(way), under(s, l, way)...)
			if e != api.OK {
				t.Fatal(e)
			}
			wantUnder(t, a, at, ends)
		})
	}
}

// TestP29_1_FinestAlone: only the cells of the finest tiers are gone by, whatever the others lead to.
func TestP29_1_FinestAlone(t *testing.T) {
	leaf := func(v int64) api.Node {
		return api.Node{Dim: 1, Lists: [][]api.Cell{{{Key: 3, Agg: one(v).Agg}}}, All: api.Cell{Agg: one(v + 1).Agg}}
	}
	x := api.Shape{Sizes: [][]int{{3, 2}, {4}}, Measures: 1}
	top := api.Node{Lists: [][]api.Cell{{{Key: 0, Child: 1}, {Key: 2, Child: 0}}, {{Key: 0, Child: 2}, {Key: 1, Child: 2}}}, All: api.Cell{Child: 3}}
	a, e := arena.Load(x, leaf(10), leaf(20), leaf(30), leaf(40), top)
	if e != api.OK {
		t.Fatal(e)
	}
	want(t, "by hand", a, 2, []api.Fact{one(20, 0, 3), one(10, 2, 3)}, 2, api.OK)
	want(t, "by hand", a, 1, nil, 1, api.ErrRows)
}

// broad is an arena of a node a dimension, of 200 cells each, all of which lead to the one ahead.
func broad(t *testing.T, dims int) *arena.Arena {
	t.Helper()
	a, e := arena.New(api.Shape{Sizes: slices.Repeat([][]int{{200}}, dims), Measures: 1}, dims)
	if e != api.OK {
		t.Fatal(e)
	}
	for dim := dims - 1; dim >= 0; dim-- {
		c := api.Cell{Child: a.Top()}
		if dim == dims-1 {
			c = api.Cell{Agg: one(1).Agg}
		}
		n := api.Node{Dim: dim, All: c, Lists: [][]api.Cell{nil}}
		for key := range 200 {
			c.Key = key
			n.Lists[0] = append(n.Lists[0], c)
		}
		if _, e := a.Add(n); e != api.OK {
			t.Fatal(e)
		}
	}
	return a
}

// TestP29_1_FarTooMany: however many ways there are, the calls end, and tell that there are more.
func TestP29_1_FarTooMany(t *testing.T) {
	const two, three, eight = 200 * 200, 200 * 200 * 200, 200 * 200 * 200 * 200 * 200 * 200 * 200 * 200
	for dims, l := range map[int][]int{
		3:  {0, 1, 4000, three - 1},
		8:  {0, 1, 4000, three, 1 << 31, 1 << 40, eight - 1},
		16: {0, 1, 4000, 1 << 31, eight, most - 1, most},
	} {
		a := broad(t, dims)
		for _, n := range l {
			want(t, fmt.Sprint(dims, " dimensions"), a, n, nil, n, api.ErrRows)
		}
		if l, e := tuples.Under(a, 1, two-1); len(l) != 0 || e != api.ErrRows {
			t.Errorf("Under = %d facts, %v", len(l), e)
		}
		if l, e := tuples.Under(a, 1, two); len(l) != two || e != api.OK || !slices.Equal(l[201].Keys, []int{1, 1}) {
			t.Errorf("Under = %d facts, %v", len(l), e)
		}
	}
	for dims, n := range map[int]int{3: three, 8: eight} {
		if got := tuples.Count(broad(t, dims), most); got != n {
			t.Errorf("Count of %d dimensions = %d, want %d", dims, got, n)
		}
	}
}

// TestP29_3_LeadsBack: the facts that a cube was built of are read out of it, and lead to the same cube.
func TestP29_3_LeadsBack(t *testing.T) {
	r := rand.New(rand.NewSource(293))
	for range 100 {
		s := []api.Schema{schema(3), schema(4, 3), schema(2, 3, 4), schema(3, 2, 3, 2), schema(1, 5, 2)}[r.Intn(5)]
		l := random(r, s, r.Intn(30))
		a := built(t, s, l...)
		want(t, "a random cube", a, api.MaxFacts, l, len(l), api.OK)
		got, _ := tuples.Facts(a, len(l))
		if !slices.EqualFunc(a.Nodes(), built(t, s, got...).Nodes(), node.Same) {
			t.Fatal("the facts that were read lead to another cube")
		}
	}
	wide := schema(200, 200)
	var l []api.Fact
	for i := range api.MaxFacts {
		l = append(l, one(int64(i), i/20, i%20))
	}
	want(t, "4000 facts", built(t, wide, l...), 4000, l, 4000, api.OK)
	want(t, "4000 facts", built(t, wide, l...), 3999, nil, 3999, api.ErrRows)
}

// TestP29_1_IsNew: what is answered shares nothing with the arena, with another answer, nor one fact with another.
func TestP29_1_IsNew(t *testing.T) {
	l := []api.Fact{one(3, 0, 0, 1), one(5, 0, 2, 0), one(5, 0, 2, 1), one(-4, 1, 1, 3)}
	a := built(t, schema(2, 3, 4), l...)
	before := a.Nodes()
	got, _ := tuples.Facts(a, 4)
	again, _ := tuples.Under(a, a.Top(), 4)
	for i, f := range got {
		if !slices.Equal(f.Keys, l[i].Keys) {
			t.Errorf("fact %d = %v behind a change of others", i, f)
		}
		for k := range f.Keys[:cap(f.Keys)] {
			f.Keys[:cap(f.Keys)][k] = 77
		}
	}
	got = got[:cap(got)]
	for i := range got {
		got[i] = one(77)
	}
	if !fact.Same(again, l) || !slices.EqualFunc(before, a.Nodes(), node.Same) {
		t.Error("what Facts answers shares something")
	}
	want(t, "behind a change", a, 4, l, 4, api.OK)
}
