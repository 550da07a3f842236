package arena_test

import (
	"math"
	"math/rand"
	"slices"
	"testing"

	"pithead/agg"
	"pithead/api"
	"pithead/arena"
	"pithead/node"
)

const most, least = math.MaxInt64, math.MinInt64

// shape is one of three dimensions, the second one of two tiers, and one measure.
func shape() api.Shape { return api.Shape{Sizes: [][]int{{2}, {3, 2}, {2}}, Measures: 1} }

// top, mid and leaf are nodes of the three dimensions, whose cells lead all to one.
func top(to int) api.Node {
	return api.Node{Dim: 0, Lists: [][]api.Cell{{{Key: 1, Child: to}}}, All: api.Cell{Child: to}}
}

func mid(to int) api.Node {
	return api.Node{Dim: 1, Lists: [][]api.Cell{{{Key: 0, Child: to}, {Key: 2, Child: to}}, {{Key: 1, Child: to}}}, All: api.Cell{Child: to}}
}

func leaf(v int64) api.Node {
	a, _ := agg.Of(v)
	return api.Node{Dim: 2, Lists: [][]api.Cell{{{Key: 0, Agg: a}}}, All: api.Cell{Agg: a}}
}

// changed is a node behind a change.
func changed(n api.Node, change func(n *api.Node)) api.Node {
	n = node.Clone(n)
	change(&n)
	return n
}

func made(t *testing.T, n int) *arena.Arena {
	t.Helper()
	a, e := arena.New(shape(), n)
	if a == nil || e != api.OK {
		t.Fatalf("New = %v, %v", a, e)
	}
	return a
}

func loaded(t *testing.T, l ...api.Node) *arena.Arena {
	t.Helper()
	a, e := arena.Load(shape(), l...)
	if a == nil || e != api.OK {
		t.Fatalf("Load = %v, %v", a, e)
	}
	return a
}

func sameShape(a, b api.Shape) bool {
	return a.Measures == b.Measures && slices.EqualFunc(a.Sizes, b.Sizes, func(a, b []int) bool { return slices.Equal(a, b) })
}

func sameNodes(a, b []api.Node) bool { return slices.EqualFunc(a, b, node.Same) }

// wantNodes: an arena has just these nodes.
func wantNodes(t *testing.T, a *arena.Arena, l ...api.Node) {
	t.Helper()
	if a.Len() != len(l) || a.Top() != len(l)-1 || !sameNodes(a.Nodes(), l) {
		t.Errorf("%d nodes, %v, want %v", a.Len(), a.Nodes(), l)
	}
	for i, n := range l {
		if got, e := a.Node(i); e != api.OK || !node.Same(got, n) {
			t.Errorf("Node(%d) = %v, %v, want %v", i, got, e, n)
		}
	}
}

// many is a list of so many sizes.
func many(n, size int) []int { return slices.Repeat([]int{size}, n) }

func mayCases() map[string]struct {
	x    api.Shape
	want bool
} {
	one := func(sizes ...int) api.Shape { return api.Shape{Sizes: [][]int{sizes}, Measures: 1} }
	dims := func(n int) api.Shape { return api.Shape{Sizes: slices.Repeat([][]int{{1}}, n), Measures: 1} }
	return map[string]struct {
		x    api.Shape
		want bool
	}{
		"of three dimensions":    {shape(), true},
		"the least":              {one(1), true},
		"the greatest":           {api.Shape{Sizes: slices.Repeat([][]int{many(4, 200)}, 16), Measures: 3}, true},
		"two measures":           {api.Shape{Sizes: [][]int{{1}}, Measures: 2}, true},
		"nothing":                {api.Shape{}, false},
		"no dimensions":          {api.Shape{Measures: 1}, false},
		"17 dimensions":          {dims(17), false},
		"16 dimensions":          {dims(16), true},
		"many dimensions":        {dims(5000), false},
		"no tiers":               {one(), false},
		"no tiers, nil":          {api.Shape{Sizes: [][]int{{1}, nil}, Measures: 1}, false},
		"four tiers":             {one(9, 7, 3, 1), true},
		"five tiers":             {one(9, 7, 3, 2, 1), false},
		"five tiers, of one":     {one(many(5, 1)...), false},
		"200 members":            {one(200), true},
		"201 members":            {one(201), false},
		"a huge tier":            {one(most), false},
		"no members":             {one(0), false},
		"less than none":         {one(-1), false},
		"far less than none":     {one(least), false},
		"no members above":       {one(2, 0), false},
		"less than none above":   {one(2, -1), false},
		"as many above":          {one(2, 2), true},
		"more above":             {one(2, 3), false},
		"more at the top":        {one(9, 2, 3), false},
		"more than two ahead":    {one(9, 5, 5, 6), false},
		"more in a later one":    {api.Shape{Sizes: [][]int{{1}, {2, 3}}, Measures: 1}, false},
		"no measures":            {api.Shape{Sizes: [][]int{{1}}}, false},
		"less than no measures":  {api.Shape{Sizes: [][]int{{1}}, Measures: -1}, false},
		"three measures":         {api.Shape{Sizes: [][]int{{1}}, Measures: 3}, true},
		"four measures":          {api.Shape{Sizes: [][]int{{1}}, Measures: 4}, false},
		"measures beyond count":  {api.Shape{Sizes: [][]int{{1}}, Measures: most}, false},
		"far less than measures": {api.Shape{Sizes: [][]int{{1}}, Measures: least}, false},
	}
}

func TestP25_1_May(t *testing.T) {
	for name, c := range mayCases() {
		if got := arena.May(c.x); got != c.want {
			t.Errorf("%s: May = %v", name, got)
		}
		want := api.OK
		if !c.want {
			want = api.ErrArg
		}
		for _, n := range []int{0, 5, api.MaxNodes} {
			a, e := arena.New(c.x, n)
			if e != want || (a == nil) != (e != api.OK) {
				t.Errorf("%s: New = %v, %v", name, a, e)
			}
		}
		if a, e := arena.Load(c.x); e != want || (a == nil) != (e != api.OK) {
			t.Errorf("%s: Load = %v, %v", name, a, e)
		}
	}
	sizes := []int{3, 2, 5, 9, 9}
	if !arena.May(api.Shape{Sizes: [][]int{sizes[:2]}, Measures: 1}) || !slices.Equal(sizes, []int{3, 2, 5, 9, 9}) {
		t.Error("May looks at what stands behind a list's end")
	}
}

func TestP25_1_New(t *testing.T) {
	for n, want := range map[int]api.Errno{0: api.OK, 1: api.OK, api.MaxNodes: api.OK, -1: api.ErrArg, least: api.ErrArg, api.MaxNodes + 1: api.ErrArg, most: api.ErrArg} {
		a, e := arena.New(shape(), n)
		if e != want || (a == nil) != (e != api.OK) {
			t.Errorf("New of at most %d = %v, %v", n, a, e)
			continue
		}
		if e == api.OK {
			wantNodes(t, a)
			if !sameShape(a.Shape(), shape()) {
				t.Errorf("Shape = %v", a.Shape())
			}
		}
	}
}

func TestP25_1_Shape(t *testing.T) {
	x := shape()
	room := append(x.Sizes, []int{55})
	x.Sizes = room[:3]
	a, _ := arena.New(x, 9)
	got := a.Shape()
	got.Sizes[1][1] = 77
	got.Sizes = append(got.Sizes[:0], []int{77})
	x.Sizes[0][0] = 66
	x.Sizes[2] = []int{66}
	if !sameShape(a.Shape(), shape()) || room[3][0] != 55 {
		t.Errorf("Shape = %v", a.Shape())
	}
}

func TestP25_1_Add(t *testing.T) {
	a := made(t, 9)
	for i, n := range []api.Node{leaf(3), leaf(4), mid(0), mid(1), mid(1), top(3), top(2), leaf(5), leaf(5)} {
		if at, e := a.Add(n); at != i || e != api.OK {
			t.Errorf("Add = %d, %v, want %d", at, e, i)
		}
	}
	if at, e := a.Add(leaf(6)); at != 0 || e != api.ErrFull {
		t.Errorf("Add to what is full = %d, %v", at, e)
	}
	wantNodes(t, a, leaf(3), leaf(4), mid(0), mid(1), mid(1), top(3), top(2), leaf(5), leaf(5))
}

// refused are nodes that an arena of a leaf, a leaf, a mid, a top refuses, and its errors.
func refused() []struct {
	name string
	n    api.Node
	e    api.Errno
} {
	return []struct {
		name string
		n    api.Node
		e    api.Errno
	}{
		{"nothing", api.Node{}, api.ErrArg},
		{"a dimension too far", changed(leaf(1), func(n *api.Node) { n.Dim = 3 }), api.ErrArg},
		{"no member", changed(mid(0), func(n *api.Node) { n.Lists[1][0].Key = 2 }), api.ErrMember},
		{"a key twice", changed(mid(0), func(n *api.Node) { n.Lists[0][1].Key = 0 }), api.ErrOrder},
		{"a longer second list", changed(mid(0), func(n *api.Node) { n.Lists[0] = n.Lists[0][:1]; n.Lists[1] = []api.Cell{{}, {Key: 1}} }), api.ErrTree},
		{"a child below 0", changed(mid(0), func(n *api.Node) { n.Lists[0][0].Child = -1 }), api.ErrArg},
		{"no rows", changed(leaf(1), func(n *api.Node) { n.All.Agg = api.Agg{} }), api.ErrArg},
		{"no member, and a node that is not there", changed(mid(9), func(n *api.Node) { n.Lists[0][1].Key = 3 }), api.ErrMember},
		{"a node that is itself", changed(mid(0), func(n *api.Node) { n.Lists[0][0].Child = 4 }), api.ErrRange},
		{"a node that is not there", changed(mid(0), func(n *api.Node) { n.Lists[0][1].Child = 5 }), api.ErrRange},
		{"a node far away", changed(mid(0), func(n *api.Node) { n.Lists[1][0].Child = most }), api.ErrRange},
		{"a node that is not there, of all", changed(mid(0), func(n *api.Node) { n.All.Child = 4 }), api.ErrRange},
		{"a node of its own dimension", changed(mid(0), func(n *api.Node) { n.Lists[1][0].Child = 2 }), api.ErrRange},
		{"a node of the dimension ahead", changed(mid(0), func(n *api.Node) { n.All.Child = 3 }), api.ErrRange},
		{"a node two dimensions behind", top(0), api.ErrRange},
		{"a node two dimensions behind, of all", changed(top(2), func(n *api.Node) { n.All.Child = 1 }), api.ErrRange},
		{"a node two dimensions behind, of a member", changed(top(2), func(n *api.Node) { n.Lists[0][0].Child = 1 }), api.ErrRange},
	}
}

func TestP25_1_AddRefuses(t *testing.T) {
	for _, full := range []int{4, 9} {
		a := made(t, full)
		l := []api.Node{leaf(3), leaf(4), mid(0), top(2)}
		for _, n := range l {
			a.Add(n)
		}
		for _, c := range refused() {
			before := node.Clone(c.n)
			if at, e := a.Add(c.n); at != 0 || e != c.e {
				t.Errorf("%s: Add = %d, %v, want %v", c.name, at, e, c.e)
			}
			if !node.Same(before, c.n) {
				t.Errorf("%s: Add has changed the node", c.name)
			}
			if b, e := arena.Load(shape(), append(slices.Clone(l), c.n)...); b != nil || e != c.e {
				t.Errorf("%s: Load = %v, %v, want %v", c.name, b, e, c.e)
			}
		}
		wantNodes(t, a, l...)
		at, e := a.Add(mid(1))
		if full == 9 && (at != 4 || e != api.OK) || full == 4 && (at != 0 || e != api.ErrFull) {
			t.Errorf("Add behind errors = %d, %v", at, e)
		}
	}
	none := made(t, 0)
	if at, e := none.Add(leaf(1)); at != 0 || e != api.ErrFull {
		t.Errorf("Add to an arena of at most 0 = %d, %v", at, e)
	}
	if _, e := none.Add(mid(0)); e != api.ErrRange {
		t.Errorf("Add of what leads nowhere, to an arena of at most 0 = %v", e)
	}
	wantNodes(t, none)
}

// TestP25_1_OneDimension: of a shape's last dimension Child leads nowhere, also where it is the first one.
func TestP25_1_OneDimension(t *testing.T) {
	a, e := arena.Load(api.Shape{Sizes: [][]int{{2}}, Measures: 1}, changed(leaf(3), func(n *api.Node) { n.Dim = 0 }))
	if e != api.OK || a.Len() != 1 || !a.Whole() {
		t.Errorf("Load = %v, %v", a, e)
	}
}

func TestP25_1_Load(t *testing.T) {
	l := []api.Node{leaf(3), mid(0), top(1)}
	wantNodes(t, loaded(t, l...), l...)
	wantNodes(t, loaded(t))
	if a, e := arena.Load(shape(), append(l, mid(7), top(9))...); a != nil || e != api.ErrRange {
		t.Errorf("Load = %v, %v", a, e)
	}
	if a, e := arena.Load(shape(), leaf(3), mid(7), api.Node{Dim: -1}); a != nil || e != api.ErrRange {
		t.Errorf("Load of several that may not be = %v, %v", a, e)
	}
	if a, e := arena.Load(api.Shape{}, api.Node{}, mid(7)); a != nil || e != api.ErrArg {
		t.Errorf("Load of no shape = %v, %v", a, e)
	}
	a := loaded(t, l...)
	if at, e := a.Add(leaf(4)); at != 3 || e != api.OK {
		t.Errorf("Add behind Load = %d, %v", at, e)
	}
}

func TestP25_1_LoadOfMany(t *testing.T) {
	l := slices.Repeat([]api.Node{leaf(1)}, api.MaxNodes)
	a := loaded(t, l...)
	if a.Len() != api.MaxNodes || a.Top() != api.MaxNodes-1 || a.Whole() {
		t.Errorf("%d nodes", a.Len())
	}
	if at, e := a.Add(leaf(1)); at != 0 || e != api.ErrFull {
		t.Errorf("Add of one more = %d, %v", at, e)
	}
	if b, e := arena.Load(shape(), append(l, leaf(1))...); b != nil || e != api.ErrFull {
		t.Errorf("Load of one more = %v, %v", b, e)
	}
}

func TestP25_1_Node(t *testing.T) {
	a := loaded(t, leaf(3), mid(0), top(1))
	for _, i := range []int{-1, 3, 4, least, most} {
		if n, e := a.Node(i); !node.Same(n, api.Node{}) || e != api.ErrRange {
			t.Errorf("Node(%d) = %v, %v", i, n, e)
		}
	}
	if n, e := made(t, 5).Node(0); !node.Same(n, api.Node{}) || e != api.ErrRange {
		t.Errorf("Node(0) of none = %v, %v", n, e)
	}
}

// TestP25_1_Memory: an arena keeps nothing that it was handed, and hands out nothing that it keeps.
func TestP25_1_Memory(t *testing.T) {
	spoil := func(n api.Node) {
		for k, l := range n.Lists {
			for i := range l[:cap(l)] {
				l[:cap(l)][i] = api.Cell{Key: 77, Child: 77}
			}
			n.Lists[k] = nil
		}
	}
	given := mid(0)
	room := append(given.Lists[0], api.Cell{Key: 55})
	given.Lists[0] = room[:2]
	a := loaded(t, leaf(3), given)
	if room[2].Key != 55 {
		t.Error("Add has changed what stands behind a list's end")
	}
	spoil(given)
	wantNodes(t, a, leaf(3), mid(0))
	got, _ := a.Node(1)
	all := a.Nodes()
	spoil(got)
	wantNodes(t, a, leaf(3), mid(0))
	if !sameNodes(all, []api.Node{leaf(3), mid(0)}) {
		t.Error("two answers share something")
	}
	spoil(all[1])
	all = all[:cap(all)]
	for i := range all {
		all[i] = api.Node{}
	}
	wantNodes(t, a, leaf(3), mid(0))
	if at, e := a.Add(top(1)); at != 2 || e != api.OK {
		t.Errorf("Add = %d, %v", at, e)
	}
	wantNodes(t, a, leaf(3), mid(0), top(1))
}

// TestP25_1_TwoArenas: two arenas know nothing of one another.
func TestP25_1_TwoArenas(t *testing.T) {
	a, b := made(t, 2), made(t, 3)
	a.Add(leaf(1))
	b.Add(leaf(2))
	b.Add(mid(0))
	wantNodes(t, a, leaf(1))
	wantNodes(t, b, leaf(2), mid(0))
}

func TestP25_1_NotMade(t *testing.T) {
	copied := *loaded(t, leaf(3), mid(0), top(1))
	for name, a := range map[string]*arena.Arena{"nil": nil, "plain": {}, "a copy": &copied} {
		if at, e := a.Add(leaf(1)); at != 0 || e != api.ErrNil {
			t.Errorf("%s: Add = %d, %v", name, at, e)
		}
		if at, e := a.Add(api.Node{Dim: -1}); at != 0 || e != api.ErrNil {
			t.Errorf("%s: Add of what may not be = %d, %v", name, at, e)
		}
		for _, i := range []int{0, -1, 9} {
			if n, e := a.Node(i); !node.Same(n, api.Node{}) || e != api.ErrNil {
				t.Errorf("%s: Node(%d) = %v, %v", name, i, n, e)
			}
		}
		if a.Len() != 0 || a.Top() != -1 || len(a.Nodes()) != 0 || a.Whole() || !sameShape(a.Shape(), api.Shape{}) {
			t.Errorf("%s: %d, %d, %v, %v, %v", name, a.Len(), a.Top(), a.Nodes(), a.Whole(), a.Shape())
		}
	}
}

func TestP25_2_Whole(t *testing.T) {
	both := changed(top(3), func(n *api.Node) { n.All.Child = 2 })
	for _, c := range []struct {
		name string
		l    []api.Node
		want bool
	}{
		{"without nodes", nil, true},
		{"one way", []api.Node{leaf(3), mid(0), top(1)}, true},
		{"all led to", []api.Node{leaf(3), leaf(4), mid(0), mid(1), both}, true},
		{"by a list's last cell alone", []api.Node{leaf(3), leaf(4), changed(mid(0), func(n *api.Node) { n.Lists[0][1].Child = 1 }), top(2)}, true},
		{"by an upper tier's cell alone", []api.Node{leaf(3), leaf(4), changed(mid(0), func(n *api.Node) { n.Lists[1][0].Child = 1 }), top(2)}, true},
		{"by all alone", []api.Node{leaf(3), leaf(4), changed(mid(0), func(n *api.Node) { n.All.Child = 1 }), top(2)}, true},
		{"a leaf alone", []api.Node{leaf(3)}, false},
		{"no top", []api.Node{leaf(3), mid(0)}, false},
		{"a leaf that is not led to", []api.Node{leaf(3), leaf(4), mid(0), top(2)}, false},
		{"the first leaf is not led to", []api.Node{leaf(3), leaf(4), mid(1), top(2)}, false},
		{"a mid that is not led to", []api.Node{leaf(3), mid(0), mid(0), top(1)}, false},
		{"leads to what is not led to, too", []api.Node{leaf(3), leaf(4), mid(0), mid(1), top(3)}, false},
		{"two tops", []api.Node{leaf(3), mid(0), top(1), top(1)}, false},
		{"a leaf behind the top", []api.Node{leaf(3), mid(0), top(1), leaf(4)}, false},
		{"a mid behind the top", []api.Node{leaf(3), mid(0), top(1), mid(0)}, false},
	} {
		a := loaded(t, c.l...)
		if a.Whole() != c.want {
			t.Errorf("%s: Whole = %v", c.name, a.Whole())
		}
		wantNodes(t, a, c.l...)
	}
}

// random is an arena of nodes that were added by chance.
func random(t *testing.T, r *rand.Rand) *arena.Arena {
	t.Helper()
	a := made(t, 40)
	for range 200 {
		to := func() int { return r.Intn(a.Len() + 2) }
		switch r.Intn(3) {
		case 0:
			a.Add(leaf(int64(r.Intn(9))))
		case 1:
			a.Add(changed(mid(to()), func(n *api.Node) { n.Lists[0][1].Child = to(); n.All.Child = to() }))
		case 2:
			a.Add(changed(top(to()), func(n *api.Node) { n.All.Child = to() }))
		}
	}
	return a
}

// TestP25_3_ToTheEnd: from each node one comes, by whatever cells, to the last dimension.
func TestP25_3_ToTheEnd(t *testing.T) {
	r := rand.New(rand.NewSource(25))
	for range 50 {
		a := random(t, r)
		for at := range a.Len() {
			for range 5 {
				ways(t, a, r, at)
			}
		}
	}
}

// ways goes on from a node, by cells that are chosen by chance.
func ways(t *testing.T, a *arena.Arena, r *rand.Rand, at int) {
	t.Helper()
	n, e := a.Node(at)
	for steps := 0; e == api.OK && n.Dim < 2; steps++ {
		cells := node.Each(n)
		dim, child := n.Dim, cells[r.Intn(len(cells))].Child
		if child >= at || steps > 2 {
			t.Fatalf("%d leads to %d", at, child)
		}
		at = child
		n, e = a.Node(at)
		if e == api.OK && n.Dim != dim+1 {
			t.Fatalf("dimension %d behind %d", n.Dim, dim)
		}
	}
	if e != api.OK {
		t.Fatalf("no node: %v", e)
	}
}

// TestP25_2_WholeIsLedTo holds Whole against a walk from the last node on.
func TestP25_2_WholeIsLedTo(t *testing.T) {
	r := rand.New(rand.NewSource(252))
	many := 0
	for range 3000 {
		a := made(t, 9)
		to := func(many, from int) int { return from + r.Intn(many) }
		leaves, mids := 1+r.Intn(3), 1+r.Intn(3)
		for range leaves {
			a.Add(leaf(1))
		}
		for range mids {
			a.Add(changed(mid(to(leaves, 0)), func(n *api.Node) { n.Lists[1][0].Child = to(leaves, 0) }))
		}
		for range r.Intn(4) / 2 {
			a.Add(changed(top(to(mids, leaves)), func(n *api.Node) { n.All.Child = to(mids, leaves) }))
		}
		if r.Intn(9) == 0 {
			a.Add(leaf(1))
		}
		led := map[int]bool{}
		walk(a, a.Top(), led)
		n, _ := a.Node(a.Top())
		want := n.Dim == 0 && len(led) == a.Len()
		if a.Whole() != want {
			t.Fatalf("Whole of %v = %v", a.Nodes(), a.Whole())
		}
		if want && a.Len() > 3 {
			many++
		}
	}
	if many < 100 {
		t.Errorf("only %d were whole", many)
	}
}

// walk notes all nodes that are led to from one on.
func walk(a *arena.Arena, at int, led map[int]bool) {
	n, e := a.Node(at)
	if e != api.OK {
		return
	}
	led[at] = true
	if n.Dim == 2 {
		return
	}
	for _, c := range node.Each(n) {
		walk(a, c.Child, led)
	}
}
