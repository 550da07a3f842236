package stream_test

import (
	"fmt"
	"math"
	"math/rand"
	"slices"
	"strings"
	"testing"

	"pithead/agg"
	"pithead/api"
	"pithead/arena"
	"pithead/build"
	"pithead/cellcode"
	"pithead/ingest"
	"pithead/node"
	"pithead/num"
	"pithead/pair"
	"pithead/same"
	"pithead/stream"
	"pithead/take"
)

const most, least = math.MaxInt64, math.MinInt64

// one is the fact of a row of one measure.
func one(v int64, keys ...int) api.Fact {
	a, _ := agg.Of(v)
	return api.Fact{Keys: keys, Agg: a}
}

// named are so many texts, which rise.
func named(n int) []string {
	l := make([]string, n)
	for i := range l {
		l[i] = fmt.Sprintf("m%03d", i)
	}
	return l
}

// tiered is a schema of dimensions of two tiers, of so many members and half as many.
func tiered(sizes ...int) api.Schema {
	s := api.Schema{Measures: []string{"m"}}
	for d, n := range sizes {
		low, up := api.Tier{Name: "low", Terms: named(n)}, api.Tier{Name: "up", Terms: named((n + 1) / 2)}
		for i := range n {
			low.Up = append(low.Up, i/2)
		}
		s.Dims = append(s.Dims, api.Dim{Name: named(16)[d], Tiers: []api.Tier{low, up}})
	}
	return s
}

func built(t *testing.T, s api.Schema, l ...api.Fact) *arena.Arena {
	t.Helper()
	a, e := build.Build(s, api.MaxNodes, l...)
	if a == nil || e != api.OK {
		t.Fatalf("Build = %v, %v", a, e)
	}
	return a
}

func loaded(t *testing.T, x api.Shape, l ...api.Node) *arena.Arena {
	t.Helper()
	a, e := arena.Load(x, l...)
	if a == nil || e != api.OK {
		t.Fatalf("Load = %v, %v", a, e)
	}
	return a
}

// shape is of two dimensions of one tier; its nodes have the bytes below.
func shape() api.Shape { return api.Shape{Sizes: [][]int{{3}, {2}}, Measures: 1} }

func leaf(v int64) api.Node {
	c := api.Cell{Agg: one(v).Agg}
	return api.Node{Dim: 1, Lists: [][]api.Cell{{c}}, All: c}
}

func high(first, second, all int) api.Node {
	return api.Node{Lists: [][]api.Cell{{{Key: 0, Child: first}, {Key: 2, Child: second}}}, All: api.Cell{Child: all}}
}

// leafBytes, highBytes are these nodes' bytes.
func leafBytes(v byte) string { return string([]byte{7, 1, 1, 0, 2, 2 * v, 2, 2 * v}) }

func highBytes(first, second, all byte) string {
	return string([]byte{7, 0, 2, 0, first, 1, second, all})
}

// notMade are arenas that no call made.
func notMade(t *testing.T) map[string]*arena.Arena {
	t.Helper()
	copied := *loaded(t, shape(), leaf(1), high(0, 0, 0))
	return map[string]*arena.Arena{"nil": nil, "plain": {}, "a copy": &copied}
}

// wantBytes: an arena has just these bytes, the last node's begin there, and they lead back; it is left as it is.
func wantBytes(t *testing.T, name string, a *arena.Arena, s string, top int) {
	t.Helper()
	before := a.Nodes()
	for _, n := range []int{len(s), len(s) + 1, api.MaxText, most} {
		if got, at, e := stream.Write(a, n); got != s || at != top || e != api.OK {
			t.Errorf("%s: Write of at most %d = %x, %d, %v, want %x, %d", name, n, got, at, e, s, top)
		}
	}
	for _, n := range []int{len(s) - 1, len(s) / 2, 0, -1, least} {
		got, at, e := stream.Write(a, n)
		if len(s) == 0 {
			if got != "" || at != 0 || e != api.OK {
				t.Errorf("%s: Write of at most %d = %x, %d, %v", name, n, got, at, e)
			}
		} else if got != "" || at != 0 || e != api.ErrFull {
			t.Errorf("%s: Write of at most %d = %x, %d, %v", name, n, got, at, e)
		}
	}
	if !slices.EqualFunc(before, a.Nodes(), node.Same) {
		t.Errorf("%s: the arena was changed", name)
	}
	if b, e := stream.Read(a.Shape(), s, top); e != api.OK || !same.Equal(a, b) {
		t.Errorf("%s: Read = %v", name, e)
	}
}

func TestP34_1_Write(t *testing.T) {
	wantBytes(t, "without nodes", loaded(t, shape()), "", 0)
	single := api.Shape{Sizes: [][]int{{1}}, Measures: 1}
	wantBytes(t, "of one dimension", loaded(t, single, api.Node{Lists: leaf(3).Lists, All: leaf(3).All}), "\x07\x00\x01\x00\x02\x06\x02\x06", 0)
	wantBytes(t, "one leaf", loaded(t, shape(), leaf(1), high(0, 0, 0)), leafBytes(1)+highBytes(0, 0, 0), 8)
	wantBytes(t, "three leaves", loaded(t, shape(), leaf(1), leaf(2), leaf(3), high(0, 1, 2)), leafBytes(1)+leafBytes(2)+leafBytes(3)+highBytes(0, 8, 16), 24)
	wantBytes(t, "in another order", loaded(t, shape(), leaf(1), leaf(2), leaf(3), high(2, 0, 1)), leafBytes(1)+leafBytes(2)+leafBytes(3)+highBytes(16, 0, 8), 24)
}

// TestP34_1_Lengths: places are of bytes, whatever lengths the nodes ahead have.
func TestP34_1_Lengths(t *testing.T) {
	x := api.Shape{Sizes: [][]int{{3}, {1}, {200}}, Measures: 1}
	wide := func(many int) api.Node {
		n := api.Node{Dim: 2, Lists: [][]api.Cell{nil}, All: leaf(1).All}
		for key := range many {
			n.Lists[0] = append(n.Lists[0], api.Cell{Key: key, Agg: one(1).Agg})
		}
		return n
	}
	mid := func(child, all int) api.Node {
		return api.Node{Dim: 1, Lists: [][]api.Cell{{{Child: child}}}, All: api.Cell{Child: all}}
	}
	a := loaded(t, x, wide(1), wide(100), mid(0, 1), wide(2), mid(3, 3), high(2, 4, 2))
	l := []string{
		take.PutText("\x02\x01\x00\x02\x02\x02\x02"),
		take.PutText("\x02\x64" + strings.Repeat("\x00\x02\x02", 100) + "\x02\x02"),
		take.PutText("\x01\x01\x00\x00\x08"),
		take.PutText("\x02\x02\x00\x02\x02\x00\x02\x02\x02\x02"),
		take.PutText("\x01\x01\x00" + num.Row(320, 320)),
		take.PutText("\x00\x02\x00" + num.Put(314) + "\x01" + num.Row(331, 314)),
	}
	wantBytes(t, "unlike lengths", a, strings.Join(l, ""), len(strings.Join(l[:5], "")))
	sizes, e := stream.Sizes(strings.Join(l, ""))
	if e != api.OK || !slices.Equal(sizes, []int{8, 306, 6, 11, 8, 11}) {
		t.Errorf("Sizes = %v, %v", sizes, e)
	}
}

func TestP34_1_Errors(t *testing.T) {
	for name, a := range notMade(t) {
		for _, n := range []int{most, 0, -1} {
			if s, top, e := stream.Write(a, n); s != "" || top != 0 || e != api.ErrNil {
				t.Errorf("%s: Write = %x, %d, %v", name, s, top, e)
			}
		}
	}
	for name, l := range map[string][]api.Node{
		"a leaf alone":              {leaf(1)},
		"a node that is not led to": {leaf(1), leaf(2), high(0, 0, 0)},
		"a node behind the top":     {leaf(1), high(0, 0, 0), leaf(1)},
		"two tops":                  {leaf(1), high(0, 0, 0), high(0, 0, 0)},
	} {
		for _, n := range []int{most, 0, -1} {
			if s, top, e := stream.Write(loaded(t, shape(), l...), n); s != "" || top != 0 || e != api.ErrArg {
				t.Errorf("%s: Write = %x, %d, %v", name, s, top, e)
			}
		}
	}
}

// TestP34_2_Read: bytes that are no cube's, or whose last node begins elsewhere.
func TestP34_2_Read(t *testing.T) {
	one, two := leafBytes(1), leafBytes(2)
	for _, c := range []struct {
		name string
		s    string
		top  int
	}{
		{"no nodes, and a top", "", 1},
		{"no nodes, and a top below 0", "", -1},
		{"no nodes, and a top far away", "", most},
		{"a top that is another node", one + highBytes(0, 0, 0), 0},
		{"a top that is none", one + highBytes(0, 0, 0), 7},
		{"a top behind the last one", one + highBytes(0, 0, 0), 16},
		{"a top below 0", one + highBytes(0, 0, 0), -1},
		{"a byte left", one + highBytes(0, 0, 0) + "\x00", 8},
		{"two bytes left", one + highBytes(0, 0, 0) + "\x07\x00", 8},
		{"a byte too few", (one + highBytes(0, 0, 0))[:15], 8},
		{"no number", one + "\x80", 8},
		{"bytes ahead", "\x00" + one + highBytes(1, 1, 1), 9},
		{"a child that is no place", one + highBytes(0, 1, 0), 8},
		{"a child that is no place, of all", one + highBytes(0, 0, 7), 8},
		{"a child that is itself", one + highBytes(0, 0, 8), 8},
		{"a child behind", one + highBytes(0, 16, 0) + two, 16},
		{"a child at the end", one + highBytes(0, 16, 0), 8},
		{"a child by its number", one + two + highBytes(0, 1, 0), 16},
		{"a child within a node", one + two + highBytes(0, 9, 8), 16},
		{"a node that may not be", one + "\x07\x00\x02\x00\x00\x02\x00\x00", 8},
		{"a leaf alone", one, 0},
		{"a top alone", highBytes(0, 0, 0), 0},
		{"no node's bytes", "\x00", 0},
		{"no node's bytes, which are cut off", "\x07", 0},
		{"no number alone", "\x80", 0},
		{"a node that is not led to", one + two + highBytes(0, 0, 0), 16},
		{"a node behind the top", one + highBytes(0, 0, 0) + one, 16},
		{"two tops", one + highBytes(0, 0, 0) + highBytes(0, 0, 0), 16},
		{"a top that leads to a top", one + highBytes(0, 0, 0) + highBytes(8, 0, 0), 16},
	} {
		if a, e := stream.Read(shape(), c.s, c.top); a != nil || e != api.ErrCorrupt {
			t.Errorf("%s: Read = %v, %v", c.name, a, e)
		}
	}
}

// TestP34_2_OneDimension: behind a node that is a cube nothing may stand.
func TestP34_2_OneDimension(t *testing.T) {
	x := api.Shape{Sizes: [][]int{{1}}, Measures: 1}
	s := "\x07\x00\x01\x00\x02\x06\x02\x06"
	if a, e := stream.Read(x, s, 0); e != api.OK || a.Len() != 1 {
		t.Errorf("Read = %v", e)
	}
	for _, behind := range []string{"\x00", "\x80", s[:7], s} {
		for _, top := range []int{0, len(s)} {
			if a, e := stream.Read(x, s+behind, top); a != nil || e != api.ErrCorrupt {
				t.Errorf("Read with %x behind it, the top at %d = %v", behind, top, e)
			}
		}
	}
}

// TestP34_2_Shapes: of a shape that may not be arena's New's error, whatever the bytes; of another one the bytes are none.
func TestP34_2_Shapes(t *testing.T) {
	s := leafBytes(1) + highBytes(0, 0, 0)
	for name, x := range map[string]api.Shape{
		"nothing": {}, "no measures": {Sizes: shape().Sizes}, "no tiers": {Sizes: [][]int{{3}, {}}, Measures: 1},
		"more above": {Sizes: [][]int{{3}, {2, 3}}, Measures: 1}, "too many members": {Sizes: [][]int{{201}, {2}}, Measures: 1},
	} {
		for _, s := range []string{s, "", "\x00"} {
			for _, top := range []int{8, 0, -1} {
				if a, e := stream.Read(x, s, top); a != nil || e != api.ErrArg {
					t.Errorf("%s: Read = %v, %v", name, a, e)
				}
			}
		}
	}
	for name, x := range map[string]api.Shape{
		"two measures": {Sizes: shape().Sizes, Measures: 2}, "one dimension": {Sizes: [][]int{{3}}, Measures: 1},
		"three dimensions": {Sizes: [][]int{{3}, {2}, {2}}, Measures: 1}, "two members": {Sizes: [][]int{{2}, {2}}, Measures: 1},
	} {
		if a, e := stream.Read(x, s, 8); a != nil || e != api.ErrCorrupt {
			t.Errorf("%s: Read = %v, %v", name, a, e)
		}
		if a, e := stream.Read(x, "", 0); e != api.OK || a.Len() != 0 || !a.Whole() {
			t.Errorf("%s: Read of no bytes = %v, %v", name, a, e)
		}
	}
}

// TestP34_2_Dimensions: a child of another dimension than the one behind is refused.
func TestP34_2_Dimensions(t *testing.T) {
	x := api.Shape{Sizes: [][]int{{1}, {1}, {1}}, Measures: 1}
	low := "\x07\x02\x01\x00\x02\x02\x02\x02"
	good := low + "\x05\x01\x01\x00\x00\x00" + "\x05\x00\x01\x00\x08\x08"
	if a, e := stream.Read(x, good, 14); e != api.OK || a.Len() != 3 {
		t.Fatalf("Read = %v", e)
	}
	for name, s := range map[string]string{
		"two behind":         low + "\x05\x01\x01\x00\x00\x00" + "\x05\x00\x01\x00\x08\x00",
		"two behind, of one": low + "\x05\x01\x01\x00\x00\x00" + "\x05\x00\x01\x00\x00\x08",
	} {
		if a, e := stream.Read(x, s, 14); a != nil || e != api.ErrCorrupt {
			t.Errorf("%s: Read = %v, %v", name, a, e)
		}
	}
	twice := low + "\x05\x01\x01\x00\x00\x00" + "\x05\x01\x01\x00\x08\x00" + "\x05\x00\x01\x00\x0e\x0e"
	if a, e := stream.Read(x, twice, 20); a != nil || e != api.ErrCorrupt {
		t.Errorf("one's own dimension: Read = %v, %v", a, e)
	}
}

// TestP34_2_TooMany: more nodes than an arena may have.
func TestP34_2_TooMany(t *testing.T) {
	x := api.Shape{Sizes: [][]int{{1}, {1}, {1}}, Measures: 1}
	low, mid := "\x07\x02\x01\x00\x02\x02\x02\x02", "\x05\x01\x01\x00\x00\x00"
	s := low + strings.Repeat(mid, api.MaxNodes)
	if a, e := stream.Read(x, s, len(s)-6); a != nil || e != api.ErrCorrupt {
		t.Errorf("Read of %d nodes = %v", api.MaxNodes+1, e)
	}
}

// TestP34_2_Turned: whatever bytes there are, Read ends; and what it reads, written, is those bytes.
func TestP34_2_Turned(t *testing.T) {
	r := rand.New(rand.NewSource(342))
	s := tiered(3, 2, 2)
	a := built(t, s, one(1, 0, 0, 1), one(2, 1, 1, 0), one(4, 2, 0, 0))
	b, top, _ := stream.Write(a, most)
	read := 0
	for range 20000 {
		turned := []byte(b)
		for range 1 + r.Intn(2) {
			turned[r.Intn(len(turned))] ^= 1 << r.Intn(8)
		}
		got, e := stream.Read(a.Shape(), string(turned), top)
		if e != api.OK {
			if e != api.ErrCorrupt || got != nil {
				t.Fatalf("Read(%x) = %v, %v", turned, got, e)
			}
			continue
		}
		read++
		if again, at, e := stream.Write(got, most); again != string(turned) || at != top || e != api.OK {
			t.Fatalf("%x, read, written: %x, %d, %v", turned, again, at, e)
		}
	}
	if read < 100 {
		t.Errorf("only %d turned texts were cubes", read)
	}
}

func TestP34_3_Node(t *testing.T) {
	s := leafBytes(1) + leafBytes(2) + highBytes(0, 8, 77) + "\x07\x00"
	for at := -3; at < len(s)+3; at++ {
		want, e := api.Node{}, api.ErrRange
		if at >= 0 && at < len(s) {
			want, _, e = cellcode.Take(shape(), s[at:])
		}
		if n, f := stream.Node(shape(), s, at); !node.Same(n, want) || f != e {
			t.Errorf("Node(%d) = %v, %v, want %v, %v", at, n, f, want, e)
		}
	}
	for at, want := range map[int]api.Node{0: leaf(1), 8: leaf(2), 16: high(0, 8, 77)} {
		if n, e := stream.Node(shape(), s, at); !node.Same(n, want) || e != api.OK {
			t.Errorf("Node(%d) = %v, %v, want %v", at, n, e, want)
		}
	}
	for _, at := range []int{1, 7, 15, 24, 25} {
		if n, e := stream.Node(shape(), s, at); !node.Same(n, api.Node{}) || e != api.ErrCorrupt {
			t.Errorf("Node(%d) = %v, %v", at, n, e)
		}
	}
	for _, at := range []int{least, -1, 0, 1, most} {
		if _, e := stream.Node(shape(), "", at); e != api.ErrRange {
			t.Errorf("Node(%d) of no bytes = %v", at, e)
		}
	}
	for _, at := range []int{least, -1, len(s), len(s) + 1, most} {
		if n, e := stream.Node(shape(), s, at); !node.Same(n, api.Node{}) || e != api.ErrRange {
			t.Errorf("Node(%d) = %v, %v", at, n, e)
		}
		if _, e := stream.Node(api.Shape{}, s, at); e != api.ErrRange {
			t.Errorf("Node(%d) of no shape = %v", at, e)
		}
	}
	if n, e := stream.Node(api.Shape{}, s, 0); !node.Same(n, api.Node{}) || e != api.ErrCorrupt {
		t.Errorf("Node of no shape = %v, %v", n, e)
	}
}

func TestP34_3_Sizes(t *testing.T) {
	for _, c := range []struct {
		s    string
		want []int
		e    api.Errno
	}{
		{"", nil, api.OK},
		{"\x00", []int{1}, api.OK},
		{"\x00\x00\x02ab\x01c", []int{1, 1, 3, 2}, api.OK},
		{leafBytes(1) + highBytes(5, 5, 5), []int{8, 8}, api.OK},
		{"\x80\x80" + strings.Repeat("a", 128) + "\x00", []int{130, 1}, api.OK},
		{num.Put(api.MaxText) + strings.Repeat("a", api.MaxText), []int{api.MaxText + 3}, api.OK},
		{num.Put(api.MaxText+1) + strings.Repeat("a", api.MaxText+1), nil, api.ErrCorrupt},
		{num.Put(api.MaxText) + strings.Repeat("a", api.MaxText-1), nil, api.ErrCorrupt},
		{"\x01", nil, api.ErrCorrupt},
		{"\x00\x03ab", nil, api.ErrCorrupt},
		{leafBytes(1) + "\x80", nil, api.ErrCorrupt},
		{leafBytes(1) + "\x80\x01a", nil, api.ErrCorrupt},
		{leafBytes(1)[:7], nil, api.ErrCorrupt},
		{num.Put(math.MaxUint64), nil, api.ErrCorrupt},
	} {
		if l, e := stream.Sizes(c.s); !slices.Equal(l, c.want) || e != c.e || e != api.OK && l != nil {
			t.Errorf("Sizes(%.20x) = %v, %v, want %v, %v", c.s, l, e, c.want, c.e)
		}
	}
}

// random are some facts of a schema, rising, each tuple once.
func random(r *rand.Rand, s api.Schema, n int) []api.Fact {
	var l []api.Fact
	for range n {
		f := one(int64(r.Intn(2000) - 999))
		for _, d := range s.Dims {
			f.Keys = append(f.Keys, r.Intn(len(d.Tiers[0].Terms)))
		}
		l = append(l, f)
	}
	l, _ = ingest.Any(l...)
	return l
}

// written is a cube's bytes, and where its top node's begin.
func written(t *testing.T, a *arena.Arena) (string, int) {
	t.Helper()
	s, top, e := stream.Write(a, most)
	if e != api.OK {
		t.Fatal(e)
	}
	return s, top
}

// byPlaces: each node stands in the bytes where the sizes tell, with its cells leading to where those begin that they led to.
func byPlaces(t *testing.T, a *arena.Arena, s string, top int) {
	t.Helper()
	l, e := stream.Sizes(s)
	if e != api.OK || len(l) != a.Len() {
		t.Fatalf("Sizes = %v, %v", l, e)
	}
	begins := []int{0}
	for _, size := range l {
		begins = append(begins, begins[len(begins)-1]+size)
	}
	if begins[a.Len()] != len(s) || begins[max(a.Top(), 0)] != top {
		t.Fatalf("Sizes = %v, of %d bytes, the top is at %d", l, len(s), top)
	}
	for i, n := range a.Nodes() {
		want := cellcode.Move(a.Shape(), n, func(child int) int { return begins[child] })
		if got, e := stream.Node(a.Shape(), s, begins[i]); e != api.OK || !node.Same(got, want) {
			t.Fatalf("Node(%d) = %v, %v, want %v", begins[i], got, e, want)
		}
	}
}

// TestP34_4_LeadsBack: Read leads back from Write; and one multiset has the same bytes, built or merged.
func TestP34_4_LeadsBack(t *testing.T) {
	r := rand.New(rand.NewSource(344))
	for range 200 {
		s := []api.Schema{tiered(5), tiered(20, 9), tiered(3, 2, 3), tiered(2, 2, 2, 2), tiered(4, 1, 4)}[r.Intn(5)]
		l, more := random(r, s, r.Intn(30)), random(r, s, r.Intn(30))
		a, b := built(t, s, l...), built(t, s, more...)
		bytes, top := written(t, a)
		byPlaces(t, a, bytes, top)
		got, e := stream.Read(a.Shape(), bytes, top)
		if e != api.OK || !same.Equal(got, a) {
			t.Fatalf("Read = %v", e)
		}
		if again, at := written(t, got); again != bytes || at != top {
			t.Fatal("Equal cubes have other bytes")
		}
		all, _ := ingest.Join(l, more)
		m, _ := pair.Many(api.MaxNodes, b, a)
		bytes, top = written(t, built(t, s, all...))
		if again, at := written(t, m); again != bytes || at != top {
			t.Fatal("what was merged has other bytes than what was built")
		}
		// Joined with none the nodes of a cube stay as they are: so do the bytes.
		m, _ = pair.Merge(m, built(t, s), api.MaxNodes)
		if again, at := written(t, m); again != bytes || at != top {
			t.Fatal("what was merged with none has other bytes")
		}
	}
}

// TestP34_4_NewMemory: what is read is an arena of its own.
func TestP34_4_NewMemory(t *testing.T) {
	a := loaded(t, shape(), leaf(1), high(0, 0, 0))
	s, top := written(t, a)
	x := shape()
	b, _ := stream.Read(x, s, top)
	x.Sizes[0][0] = 1
	c, _ := stream.Read(shape(), s, top)
	if at, e := b.Add(leaf(5)); at != 2 || e != api.OK {
		t.Errorf("Add = %d, %v", at, e)
	}
	if !same.Equal(a, c) || b.Shape().Sizes[0][0] != 3 {
		t.Error("what was read shares something")
	}
}
