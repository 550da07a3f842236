package build_test

import (
	"fmt"
	"math"
	"math/rand"
	"slices"
	"testing"

	"pithead/agg"
	"pithead/api"
	"pithead/arena"
	"pithead/build"
	"pithead/node"
)

const most, least = math.MaxInt64, math.MinInt64

// one is the fact of a row of one measure.
func one(v int64, keys ...int) api.Fact {
	a, _ := agg.Of(v)
	return api.Fact{Keys: keys, Agg: a}
}

// named are so many members, or tiers, or dimensions, which rise.
func named(n int) []string {
	l := make([]string, n)
	for i := range l {
		l[i] = fmt.Sprintf("m%03d", i)
	}
	return l
}

// tiers is a dimension of tiers, of which each tells under which of the next one its members stand; the last one has so many.
func tiers(name string, top int, ups ...[]int) api.Dim {
	d := api.Dim{Name: name}
	for k, up := range ups {
		d.Tiers = append(d.Tiers, api.Tier{Name: named(9)[k], Terms: named(len(up)), Up: up})
	}
	d.Tiers = append(d.Tiers, api.Tier{Name: "top", Terms: named(top)})
	return d
}

// small is of two dimensions of one tier of two members.
func small() api.Schema {
	return api.Schema{Dims: []api.Dim{tiers("d", 2), tiers("e", 2)}, Measures: []string{"m"}}
}

// deep is of three dimensions, of two, one, and three tiers.
func deep() api.Schema {
	return api.Schema{Dims: []api.Dim{
		tiers("d", 2, []int{1, 0, 1}),
		tiers("e", 3),
		tiers("f", 1, []int{0, 1, 0, 2}, []int{0, 0, 0}),
	}, Measures: []string{"m", "n"}}
}

func built(t *testing.T, s api.Schema, l ...api.Fact) *arena.Arena {
	t.Helper()
	a, e := build.Build(s, api.MaxNodes, l...)
	if a == nil || e != api.OK {
		t.Fatalf("Build = %v, %v", a, e)
	}
	return a
}

// wantNodes: an arena has just these nodes.
func wantNodes(t *testing.T, a *arena.Arena, want []api.Node) {
	t.Helper()
	got := a.Nodes()
	if len(got) != len(want) {
		t.Fatalf("%d nodes, want %d", len(got), len(want))
	}
	for i, n := range got {
		if !node.Same(n, want[i]) {
			t.Fatalf("node %d = %v, want %v", i, n, want[i])
		}
	}
}

// led is a cell that leads to a node, sum one of an aggregate.
func led(key, child int) api.Cell { return api.Cell{Key: key, Child: child} }

func sum(key int, v ...int64) api.Cell {
	var all api.Agg
	for _, n := range v {
		all, _ = agg.Join(all, one(n).Agg)
	}
	return api.Cell{Key: key, Agg: all}
}

func TestP26_1_Lifts(t *testing.T) {
	got := build.Lifts(deep())
	want := [][][]int{
		{{0, 1, 2}, {1, 0, 1}},
		{{0, 1, 2}},
		{{0, 1, 2, 3}, {0, 1, 0, 2}, {0, 0, 0, 0}},
	}
	if !sameLifts(got, want) {
		t.Errorf("Lifts = %v, want %v", got, want)
	}
	if l := build.Lifts(api.Schema{Measures: []string{"m"}}); len(l) != 0 {
		t.Errorf("Lifts of no dimensions = %v", l)
	}
}

func sameLifts(a, b [][][]int) bool {
	return slices.EqualFunc(a, b, func(a, b [][]int) bool {
		return slices.EqualFunc(a, b, func(a, b []int) bool { return slices.Equal(a, b) })
	})
}

// TestP26_1_LiftsByHand: of schemas that may not be Lifts tells what dim's Map tells.
func TestP26_1_LiftsByHand(t *testing.T) {
	s := api.Schema{Dims: []api.Dim{
		{Name: "none"},
		{Tiers: []api.Tier{{Terms: named(3), Up: []int{7, -1}}, {Terms: named(2)}}},
		{Tiers: []api.Tier{{}, {Terms: named(1)}}},
		{Tiers: []api.Tier{{Terms: []string{"b", "a"}, Up: []int{1, 1, 1, 1}}, {Terms: named(2), Up: []int{most, least}}, {}, {}, {}}},
	}}
	want := [][][]int{{}, {{0, 1, 2}, {7, -1, -1}}, {{}, {}}, {{0, 1}, {1, 1}, {-1, -1}, {-1, -1}, {-1, -1}}}
	if got := build.Lifts(s); !sameLifts(got, want) {
		t.Errorf("Lifts = %v, want %v", got, want)
	}
}

func TestP26_1_LiftsIsNew(t *testing.T) {
	s := deep()
	got, again := build.Lifts(s), build.Lifts(s)
	for _, l := range got {
		for _, m := range l {
			for i := range m[:cap(m)] {
				m[:cap(m)][i] = 77
			}
		}
	}
	if !sameLifts(again, build.Lifts(deep())) || !slices.Equal(s.Dims[0].Tiers[0].Up, []int{1, 0, 1}) {
		t.Error("what Lifts answers shares something")
	}
}

func TestP26_2_OneFact(t *testing.T) {
	wantNodes(t, built(t, small(), one(5, 1, 0)), []api.Node{
		{Dim: 1, Lists: [][]api.Cell{{sum(0, 5)}}, All: sum(0, 5)},
		{Dim: 0, Lists: [][]api.Cell{{led(1, 0)}}, All: led(0, 0)},
	})
	single := api.Schema{Dims: []api.Dim{tiers("d", 1)}, Measures: []string{"m"}}
	wantNodes(t, built(t, single, one(5, 0)), []api.Node{{Lists: [][]api.Cell{{sum(0, 5)}}, All: sum(0, 5)}})
}

// TestP26_2_LikeIsNotSame: facts that tell the same are other facts; parts of the same facts have one node.
func TestP26_2_LikeIsNotSame(t *testing.T) {
	wantNodes(t, built(t, small(), one(5, 0, 1), one(5, 1, 1)), []api.Node{
		{Dim: 1, Lists: [][]api.Cell{{sum(1, 5)}}, All: sum(0, 5)},
		{Dim: 1, Lists: [][]api.Cell{{sum(1, 5)}}, All: sum(0, 5)},
		{Dim: 1, Lists: [][]api.Cell{{sum(1, 5, 5)}}, All: sum(0, 5, 5)},
		{Dim: 0, Lists: [][]api.Cell{{led(0, 0), led(1, 1)}}, All: led(0, 2)},
	})
	wantNodes(t, built(t, small(), one(5, 0, 0), one(7, 0, 1)), []api.Node{
		{Dim: 1, Lists: [][]api.Cell{{sum(0, 5), sum(1, 7)}}, All: sum(0, 5, 7)},
		{Dim: 0, Lists: [][]api.Cell{{led(0, 0)}}, All: led(0, 0)},
	})
}

// TestP26_2_Tiers: of each tier the cells, by rising places; what came for a finer tier is led to by a coarser one.
func TestP26_2_Tiers(t *testing.T) {
	s := api.Schema{Dims: []api.Dim{tiers("d", 2, []int{1, 0, 1}), tiers("e", 1, []int{0, 0})}, Measures: []string{"m"}}
	wantNodes(t, built(t, s, one(1, 0, 0), one(2, 1, 1), one(4, 2, 0)), []api.Node{
		{Dim: 1, Lists: [][]api.Cell{{sum(0, 1)}, {sum(0, 1)}}, All: sum(0, 1)},
		{Dim: 1, Lists: [][]api.Cell{{sum(1, 2)}, {sum(0, 2)}}, All: sum(0, 2)},
		{Dim: 1, Lists: [][]api.Cell{{sum(0, 4)}, {sum(0, 4)}}, All: sum(0, 4)},
		{Dim: 1, Lists: [][]api.Cell{{sum(0, 1, 4)}, {sum(0, 1, 4)}}, All: sum(0, 1, 4)},
		{Dim: 1, Lists: [][]api.Cell{{sum(0, 1, 4), sum(1, 2)}, {sum(0, 1, 2, 4)}}, All: sum(0, 1, 2, 4)},
		{Dim: 0, Lists: [][]api.Cell{{led(0, 0), led(1, 1), led(2, 2)}, {led(0, 1), led(1, 3)}}, All: led(0, 4)},
	})
}

// TestP26_2_Order: the nodes behind a cell come ahead of those behind the next one, each ahead of what leads to it.
func TestP26_2_Order(t *testing.T) {
	s := small()
	s.Dims = append(s.Dims, tiers("f", 3))
	a := built(t, s, one(1, 0, 1, 2), one(2, 1, 0, 0), one(4, 1, 1, 2))
	var dims []int
	for _, n := range a.Nodes() {
		dims = append(dims, n.Dim)
	}
	if want := []int{2, 1, 2, 2, 2, 1, 2, 2, 1, 0}; !slices.Equal(dims, want) {
		t.Errorf("the nodes' dimensions = %v, want %v", dims, want)
	}
	top, _ := a.Node(9)
	if !node.Same(top, api.Node{Lists: [][]api.Cell{{led(0, 1), led(1, 5)}}, All: led(0, 8)}) {
		t.Errorf("the top = %v", top)
	}
	all, _ := a.Node(8)
	if !node.Same(all, api.Node{Dim: 1, Lists: [][]api.Cell{{led(0, 2), led(1, 6)}}, All: led(0, 7)}) {
		t.Errorf("the node of all = %v", all)
	}
}

// model builds a cube as the document says it, in another way: a part is a number whose bits are its facts.
type model struct {
	s     api.Schema
	facts []api.Fact
	nodes []api.Node
	came  map[[2]uint64]int
}

// over is under which member of a tier a member of the finest one stands.
func over(d api.Dim, tier, key int) int {
	for k := range tier {
		key = d.Tiers[k].Up[key]
	}
	return key
}

func (m *model) node(dim int, part uint64) int {
	if at, is := m.came[[2]uint64{uint64(dim), part}]; is {
		return at
	}
	n := api.Node{Dim: dim}
	d := m.s.Dims[dim]
	for k, tier := range d.Tiers {
		var l []api.Cell
		for member := range tier.Terms {
			under := uint64(0)
			for i, f := range m.facts {
				if part>>i&1 == 1 && over(d, k, f.Keys[dim]) == member {
					under |= 1 << i
				}
			}
			if under != 0 {
				l = append(l, m.cell(dim, member, under))
			}
		}
		n.Lists = append(n.Lists, l)
	}
	n.All = m.cell(dim, 0, part)
	m.nodes = append(m.nodes, n)
	m.came[[2]uint64{uint64(dim), part}] = len(m.nodes) - 1
	return len(m.nodes) - 1
}

func (m *model) cell(dim, key int, part uint64) api.Cell {
	if dim < len(m.s.Dims)-1 {
		return led(key, m.node(dim+1, part))
	}
	c := api.Cell{Key: key}
	for i, f := range m.facts {
		if part>>i&1 == 1 {
			c.Agg, _ = agg.Join(c.Agg, f.Agg)
		}
	}
	return c
}

// modelled is the nodes of the cube of facts, of which there are at most 64.
func modelled(s api.Schema, l []api.Fact) []api.Node {
	m := &model{s: s, facts: l, came: map[[2]uint64]int{}}
	if len(l) > 0 {
		m.node(0, 1<<len(l)-1)
	}
	return m.nodes
}

// randomSchema is of some dimensions of some tiers, randomFacts are some of its facts.
func randomSchema(r *rand.Rand) api.Schema {
	s := api.Schema{Measures: named(1 + r.Intn(3))}
	for d := range 1 + r.Intn(4) {
		var ups [][]int
		size := 1 + r.Intn(6)
		for range r.Intn(4) {
			above := 1 + r.Intn(size)
			up := make([]int, size)
			for i := range up {
				up[i] = r.Intn(above)
				if i < above {
					up[i] = i // each one comes
				}
			}
			r.Shuffle(size, func(i, j int) { up[i], up[j] = up[j], up[i] })
			ups = append(ups, up)
			size = above
		}
		s.Dims = append(s.Dims, tiers(named(9)[d], size, ups...))
	}
	return s
}

func randomFacts(r *rand.Rand, s api.Schema, n int) []api.Fact {
	var l []api.Fact
	for range n {
		var f api.Fact
		for _, d := range s.Dims {
			f.Keys = append(f.Keys, r.Intn(len(d.Tiers[0].Terms)))
		}
		for range 1 + r.Intn(2) {
			var values []int64
			for range s.Measures {
				values = append(values, int64(r.Intn(19)-9))
			}
			a, _ := agg.Of(values...)
			f.Agg, _ = agg.Join(f.Agg, a)
		}
		l = append(l, f)
	}
	slices.SortFunc(l, func(a, b api.Fact) int { return slices.Compare(a.Keys, b.Keys) })
	return slices.CompactFunc(l, func(a, b api.Fact) bool { return slices.Equal(a.Keys, b.Keys) })
}

// TestP26_2_AsTheModel holds random cubes, node by node, against a model of them.
func TestP26_2_AsTheModel(t *testing.T) {
	r := rand.New(rand.NewSource(26))
	for range 600 {
		s := randomSchema(r)
		l := randomFacts(r, s, r.Intn(25))
		want := modelled(s, l)
		a := built(t, s, l...)
		wantNodes(t, a, want)
		if !a.Whole() {
			t.Fatal("what was built is not whole")
		}
		if b, e := build.Build(s, len(want), l...); e != api.OK || b.Len() != len(want) {
			t.Fatalf("Build of at most %d = %v, %v", len(want), b, e)
		}
		if n := r.Intn(max(len(want), 1)); n < len(want) {
			if b, e := build.Build(s, n, l...); b != nil || e != api.ErrFull {
				t.Fatalf("Build of at most %d of %d = %v, %v", n, len(want), b, e)
			}
		}
	}
}

// eachWay calls a function with each way through a schema's dimensions.
func eachWay(s api.Schema, do func(way []api.Pos), ahead ...api.Pos) {
	if len(ahead) == len(s.Dims) {
		do(ahead)
		return
	}
	eachWay(s, do, append(slices.Clone(ahead), api.Pos{Tier: -1})...)
	for k, tier := range s.Dims[len(ahead)].Tiers {
		for key := range tier.Terms {
			eachWay(s, do, append(slices.Clone(ahead), api.Pos{Tier: k, Key: key})...)
		}
	}
}

// under is the facts that stand under all of a way, or of its beginning.
func under(s api.Schema, l []api.Fact, way []api.Pos) []int {
	var part []int
	for i, f := range l {
		is := true
		for d, p := range way {
			is = is && (p.Tier < 0 || over(s.Dims[d], p.Tier, f.Keys[d]) == p.Key)
		}
		if is {
			part = append(part, i)
		}
	}
	return part
}

// along follows a way's cells: the last one, and the node behind each of the others.
func along(a *arena.Arena, way []api.Pos) (api.Cell, []int, bool) {
	c, passed := api.Cell{Child: a.Top()}, []int(nil)
	for _, p := range way {
		n, e := a.Node(c.Child)
		if e != api.OK {
			return api.Cell{}, nil, false
		}
		passed = append(passed, c.Child)
		found := false
		if c, found = node.Find(n, p); !found {
			return api.Cell{}, nil, false
		}
	}
	return c, passed, true
}

// TestP26_4_EachWay: each way leads to the aggregate of just the facts that stand under it, or there is none, and no such fact.
func TestP26_4_EachWay(t *testing.T) {
	r := rand.New(rand.NewSource(264))
	there, none := 0, 0
	for range 40 {
		s := randomSchema(r)
		l := randomFacts(r, s, 1+r.Intn(20))
		a := built(t, s, l...)
		eachWay(s, func(way []api.Pos) {
			var want api.Agg
			part := under(s, l, way)
			for _, i := range part {
				want, _ = agg.Join(want, l[i].Agg)
			}
			c, _, is := along(a, way)
			if is != (len(part) > 0) || c.Agg != want {
				t.Fatalf("the way %v leads to %v, %v, want %v", way, c.Agg, is, want)
			}
			if is {
				there++
			} else {
				none++
			}
		})
	}
	if there < 1000 || none < 1000 {
		t.Errorf("%d ways led to something, %d to nothing", there, none)
	}
}

// TestP26_5_OneNode: two ways, or beginnings of ways, lead to one node just if the same facts stand under both.
func TestP26_5_OneNode(t *testing.T) {
	r := rand.New(rand.NewSource(265))
	shared := 0
	for range 40 {
		s := randomSchema(r)
		l := randomFacts(r, s, 1+r.Intn(12))
		a := built(t, s, l...)
		nodeOf, partOf := map[string]int{}, map[int]string{}
		eachWay(s, func(way []api.Pos) {
			_, passed, is := along(a, way)
			if !is {
				return
			}
			for d, at := range passed {
				part := fmt.Sprint(d, under(s, l, way[:d]))
				if other, came := nodeOf[part]; came && other != at {
					t.Fatalf("the part %v has the nodes %d and %d", part, other, at)
				}
				if other, came := partOf[at]; came && other != part {
					t.Fatalf("the node %d has the parts %v and %v", at, other, part)
				}
				nodeOf[part], partOf[at] = at, part
				shared++
			}
		})
		if len(partOf) != a.Len() {
			t.Fatalf("ways lead to %d of %d nodes", len(partOf), a.Len())
		}
		shared -= a.Len()
	}
	if shared < 1000 {
		t.Errorf("only %d ways led to a node that came ahead", shared)
	}
}

func TestP26_3_NoFacts(t *testing.T) {
	for _, n := range []int{0, 1, api.MaxNodes} {
		a, e := build.Build(deep(), n)
		if e != api.OK || a.Len() != 0 || !a.Whole() || a.Top() != -1 {
			t.Errorf("Build of no facts, at most %d = %v, %v", n, a, e)
		}
		x := a.Shape()
		if x.Measures != 2 || !sameLifts([][][]int{x.Sizes}, [][][]int{{{3, 2}, {3}, {4, 3, 1}}}) {
			t.Errorf("Shape = %v", x)
		}
	}
}

// TestP26_3_Errors: what may not be, and which of several errors comes first.
func TestP26_3_Errors(t *testing.T) {
	bad := small()
	bad.Dims[1].Name = "d"
	tree := small()
	tree.Dims[1] = tiers("e", 3, []int{0, 1})
	var lots []api.Fact
	for i := range api.MaxFacts + 1 {
		lots = append(lots, one(1, i/200, i%200))
	}
	wide := api.Schema{Dims: []api.Dim{tiers("d", 200), tiers("e", 200)}, Measures: []string{"m"}}
	falling := slices.Clone(lots)
	falling[4000] = falling[3999]
	over := []api.Fact{one(most, 0, 0), one(1, 0, 1)}
	for _, c := range []struct {
		name string
		s    api.Schema
		most int
		l    []api.Fact
		e    api.Errno
	}{
		{"no schema", api.Schema{}, 9, nil, api.ErrLimit},
		{"a name twice", bad, 9, nil, api.ErrTwice},
		{"no tree", tree, 9, nil, api.ErrTree},
		{"no measures", api.Schema{Dims: small().Dims}, 9, nil, api.ErrLimit},
		{"a name twice, facts that fall, less than no nodes", bad, -1, []api.Fact{one(1, 1, 0), one(1, 0, 0)}, api.ErrTwice},
		{"too few places", small(), 9, []api.Fact{one(1, 0)}, api.ErrArg},
		{"too many places", small(), 9, []api.Fact{one(1, 0, 0, 0)}, api.ErrArg},
		{"no member", small(), 9, []api.Fact{one(1, 0, 2)}, api.ErrMember},
		{"a place below 0", small(), 9, []api.Fact{one(1, -1, 0)}, api.ErrMember},
		{"a place of a finer tier is one", deep(), 99, []api.Fact{{Keys: []int{2, 2, 3}, Agg: api.Agg{Count: 2}}}, api.OK},
		{"no rows", small(), 9, []api.Fact{{Keys: []int{0, 0}}}, api.ErrArg},
		{"a further measure", small(), 9, []api.Fact{{Keys: []int{0, 0}, Agg: api.Agg{Count: 2, M: [3]api.Part{{}, {Sum: 1}}}}}, api.ErrArg},
		{"facts that fall", small(), 9, []api.Fact{one(1, 1, 0), one(1, 0, 0)}, api.ErrOrder},
		{"a tuple twice", small(), 9, []api.Fact{one(1, 1, 0), one(1, 1, 0)}, api.ErrOrder},
		{"facts that fall, less than no nodes", small(), -1, []api.Fact{one(1, 1, 0), one(1, 0, 0)}, api.ErrOrder},
		{"4000 facts", wide, api.MaxNodes, lots[:4000], api.OK},
		{"4001 facts", wide, api.MaxNodes, lots, api.ErrRows},
		{"4001 facts, the last one not behind the one ahead", wide, api.MaxNodes, falling, api.ErrOrder},
		{"4001 facts, less than no nodes", wide, -1, lots, api.ErrRows},
		{"4001 facts, of at most no nodes", wide, 0, lots, api.ErrRows},
		{"less than no nodes", small(), -1, nil, api.ErrArg},
		{"far less than no nodes", small(), least, []api.Fact{one(1, 0, 0)}, api.ErrArg},
		{"too many nodes", small(), api.MaxNodes + 1, []api.Fact{one(1, 0, 0)}, api.ErrArg},
		{"far too many nodes", small(), most, nil, api.ErrArg},
		{"too many nodes, a sum too great", small(), api.MaxNodes + 1, over, api.ErrArg},
		{"a sum too great", small(), 9, over, api.ErrOver},
		{"no nodes", small(), 0, []api.Fact{one(1, 0, 0)}, api.ErrFull},
		{"one node too few", small(), 1, []api.Fact{one(1, 0, 0)}, api.ErrFull},
		{"just as many nodes", small(), 2, []api.Fact{one(1, 0, 0)}, api.OK},
	} {
		a, e := build.Build(c.s, c.most, c.l...)
		if e != c.e || (a == nil) != (e != api.OK) {
			t.Errorf("%s: Build = %v, %v, want %v", c.name, a, e, c.e)
		}
	}
}

// TestP26_3_Over: sums that do not fit, in a cell or in that of all, one by one in the facts' order.
func TestP26_3_Over(t *testing.T) {
	single := api.Schema{Dims: []api.Dim{tiers("d", 1, []int{0, 0, 0})}, Measures: []string{"m"}}
	many := func(n int64, keys ...int) api.Fact {
		return api.Fact{Keys: keys, Agg: api.Agg{Count: n}}
	}
	for _, c := range []struct {
		name string
		l    []api.Fact
		e    api.Errno
	}{
		{"just fitting", []api.Fact{one(most-1, 0), one(1, 1)}, api.OK},
		{"too great", []api.Fact{one(most, 0), one(1, 1)}, api.ErrOver},
		{"too great on the way", []api.Fact{one(most, 0), one(1, 1), one(-1, 2)}, api.ErrOver},
		{"fitting on the way", []api.Fact{one(most, 0), one(-1, 1), one(1, 2)}, api.OK},
		{"too small", []api.Fact{one(least, 0), one(0, 1), one(-1, 2)}, api.ErrOver},
		{"too many rows", []api.Fact{many(most, 0), many(1, 1)}, api.ErrOver},
		{"as many rows as can be", []api.Fact{many(most-1, 0), many(1, 1)}, api.OK},
	} {
		if a, e := build.Build(single, 9, c.l...); e != c.e || (a == nil) != (e != api.OK) {
			t.Errorf("%s: Build = %v, %v, want %v", c.name, a, e, c.e)
		}
	}
	// The coarser tier's sum, and that of all, do not fit: a part's alone do.
	two := api.Schema{Dims: []api.Dim{tiers("d", 2), tiers("e", 1)}, Measures: []string{"m"}}
	if _, e := build.Build(two, 9, one(most, 0, 0), one(1, 1, 0)); e != api.ErrOver {
		t.Errorf("Build of a sum of all that is too great = %v", e)
	}
}

// TestP26_3_WhicheverComesFirst: a sum that does not fit, or no room for a node.
func TestP26_3_WhicheverComesFirst(t *testing.T) {
	s := small()
	// The nodes come so: that of the place 0, that of the place 1, that of both, the top.
	early := []api.Fact{one(most, 0, 0), one(1, 0, 1), one(1, 1, 0)}
	late := []api.Fact{one(most, 0, 0), one(1, 1, 1)}
	for _, c := range []struct {
		name string
		most int
		l    []api.Fact
		e    api.Errno
	}{
		{"the first node's sum, no room for it", 0, early, api.ErrOver},
		{"the first node's sum", 1, early, api.ErrOver},
		{"no room for the first node, the third one's sum", 0, late, api.ErrFull},
		{"no room for the second node, the third one's sum", 1, late, api.ErrFull},
		{"the third node's sum, no room for it", 2, late, api.ErrOver},
		{"the third node's sum", 3, late, api.ErrOver},
		{"the third node's sum, room", 4, late, api.ErrOver},
	} {
		if a, e := build.Build(s, c.most, c.l...); a != nil || e != c.e {
			t.Errorf("%s: Build = %v, %v, want %v", c.name, a, e, c.e)
		}
	}
}

// TestP26_3_Most: an arena that was built has room for as many nodes as it was said, and no more.
func TestP26_3_Most(t *testing.T) {
	a, e := build.Build(small(), 3, one(5, 0, 0))
	if e != api.OK {
		t.Fatal(e)
	}
	n, _ := a.Node(0)
	if at, e := a.Add(n); at != 2 || e != api.OK {
		t.Errorf("Add = %d, %v", at, e)
	}
	if _, e := a.Add(n); e != api.ErrFull {
		t.Errorf("Add of a fourth one = %v", e)
	}
}

// TestP26_3_Memory: what is handed in is neither changed nor kept, the room behind a list's end included.
func TestP26_3_Memory(t *testing.T) {
	s := deep()
	l := randomFacts(rand.New(rand.NewSource(263)), s, 20)
	want := modelled(s, l)
	roomy := make([]api.Fact, 0, len(l)+1)
	for _, f := range l {
		roomy = append(roomy, api.Fact{Keys: append(slices.Clone(f.Keys), 55, 55)[:len(f.Keys)], Agg: f.Agg})
	}
	roomy[:len(l)+1][len(l)] = one(55, 55)
	a := built(t, s, roomy...)
	for i, f := range roomy {
		if !slices.Equal(f.Keys[:len(f.Keys)+2], append(slices.Clone(l[i].Keys), 55, 55)) || f.Agg != l[i].Agg {
			t.Errorf("fact %d was changed: %v", i, f)
		}
	}
	if f := roomy[:len(l)+1][len(l)]; !slices.Equal(f.Keys, []int{55}) {
		t.Errorf("what stands behind the facts was changed: %v", f)
	}
	if !sameLifts(build.Lifts(s), build.Lifts(deep())) {
		t.Error("the schema was changed")
	}
	for i := range roomy {
		roomy[i].Keys[0] = 1
		roomy[i] = one(77)
	}
	s.Dims[0].Tiers[0].Up[0] = 0
	s.Dims[2] = api.Dim{}
	wantNodes(t, a, want)
}

// TestP26_2_Sixteen: one fact, of 16 dimensions of four tiers: a node a dimension.
func TestP26_2_Sixteen(t *testing.T) {
	s := api.Schema{Measures: []string{"m"}}
	var keys []int
	for d := range api.MaxDims {
		s.Dims = append(s.Dims, tiers(named(16)[d], 1, []int{0, 1, 2, 3}, []int{0, 1, 1, 0}, []int{0, 0}))
		keys = append(keys, d%4)
	}
	a := built(t, s, one(5, keys...))
	if a.Len() != api.MaxDims {
		t.Errorf("%d nodes", a.Len())
	}
	for i, n := range a.Nodes() {
		d := api.MaxDims - 1 - i
		if n.Dim != d || n.Lists[0][0].Key != d%4 || n.Lists[2][0].Key != over(s.Dims[d], 2, d%4) || node.Count(n) != 5 {
			t.Errorf("node %d = %v", i, n)
		}
	}
}

// TestP26_2_ManyFacts: parts are told from one another also where their facts' places are great.
func TestP26_2_ManyFacts(t *testing.T) {
	s := api.Schema{Dims: []api.Dim{tiers("d", 20), tiers("e", 200)}, Measures: []string{"m"}}
	var l []api.Fact
	for i := range api.MaxFacts {
		l = append(l, one(int64(i), i/200, i%200))
	}
	a := built(t, s, l...)
	if a.Len() != 22 {
		t.Fatalf("%d nodes", a.Len())
	}
	for i, n := range a.Nodes()[:20] {
		for k, c := range n.Lists[0] {
			if len(n.Lists[0]) != 200 || c != sum(k, int64(200*i+k)) {
				t.Fatalf("cell %d of node %d = %v", k, i, c)
			}
		}
	}
	three := api.Schema{Dims: append(slices.Clone(s.Dims), tiers("f", 1)), Measures: []string{"m"}}
	var far []api.Fact
	for _, f := range l {
		far = append(far, api.Fact{Keys: append(slices.Clone(f.Keys), 0), Agg: f.Agg})
	}
	b := built(t, three, far...)
	if b.Len() != 1+21+4000+200+20+1 {
		t.Errorf("%d nodes", b.Len())
	}
	for _, f := range l {
		if c, _, is := along(b, []api.Pos{{Key: f.Keys[0]}, {Key: f.Keys[1]}, {}}); !is || c.Agg != f.Agg {
			t.Fatalf("the fact %v is %v", f, c.Agg)
		}
	}
}
