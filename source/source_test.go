package source_test

import (
	"fmt"
	"math"
	"math/rand"
	"slices"
	"strings"
	"testing"

	"pithead/agg"
	"pithead/api"
	"pithead/arena"
	"pithead/build"
	"pithead/cellcode"
	"pithead/device"
	"pithead/ingest"
	"pithead/node"
	"pithead/page"
	"pithead/pager"
	"pithead/schema"
	"pithead/source"
	"pithead/stream"
	"pithead/take"
)

const most, least = math.MaxInt64, math.MinInt64

// one is the fact of a row of one measure.
func one(v int64, keys ...int) api.Fact {
	a, _ := agg.Of(v)
	return api.Fact{Keys: keys, Agg: a}
}

// named are so many texts, which rise.
func named(n int) []string {
	l := make([]string, n)
	for i := range l {
		l[i] = fmt.Sprintf("m%03d", i)
	}
	return l
}

// tiered is a schema of dimensions of two tiers, of so many members and half as many.
func tiered(sizes ...int) api.Schema {
	s := api.Schema{Measures: []string{"m"}}
	for d, n := range sizes {
		low, up := api.Tier{Name: "low", Terms: named(n)}, api.Tier{Name: "up", Terms: named((n + 1) / 2)}
		for i := range n {
			low.Up = append(low.Up, i/2)
		}
		s.Dims = append(s.Dims, api.Dim{Name: named(16)[d], Tiers: []api.Tier{low, up}})
	}
	return s
}

// cube is a schema's of some random facts.
func cube(t *testing.T, s api.Schema, n int) *arena.Arena {
	t.Helper()
	r := rand.New(rand.NewSource(37))
	var l []api.Fact
	for range n {
		f := one(int64(r.Intn(9999)))
		for _, d := range s.Dims {
			f.Keys = append(f.Keys, r.Intn(len(d.Tiers[0].Terms)))
		}
		l = append(l, f)
	}
	l, _ = ingest.Any(l...)
	a, e := build.Build(s, api.MaxNodes, l...)
	if e != api.OK {
		t.Fatalf("Build = %v", e)
	}
	return a
}

// disk is a device that has a version of nodes' bytes: of the first pages the list has one, the catalog one, the nodes the next ones.
func disk(t *testing.T, nodes string, top int) *device.Device {
	t.Helper()
	d, _ := device.New(api.MaxSectors)
	p := open(t, d)
	if e := p.Publish("c", nodes, top); e != api.OK {
		t.Fatalf("Publish = %v", e)
	}
	return d
}

// nodesFirst is the page of the device that has the first of the nodes' bytes.
const nodesFirst = 2

func open(t *testing.T, d *device.Device) *pager.Pager {
	t.Helper()
	p, e := pager.Open(d)
	if e != api.OK {
		t.Fatalf("Open = %v", e)
	}
	return p
}

// paged is a version of nodes' bytes, on a device of its own.
func paged(t *testing.T, nodes string, top int) *pager.Pager {
	t.Helper()
	return open(t, disk(t, nodes, top))
}

// wantNode: a source has that node there.
func wantNode(t *testing.T, name string, s *source.Source, at int, want api.Node) {
	t.Helper()
	reads := s.Reads()
	if n, e := s.Node(at); e != api.OK || !node.Same(n, want) {
		t.Fatalf("%s: Node(%d) = %+v, %v, want %+v", name, at, n, e, want)
	}
	if s.Reads() != reads+1 {
		t.Fatalf("%s: %d reads behind %d", name, s.Reads(), reads)
	}
}

// wantError: a source answers an error there, and nothing else.
func wantError(t *testing.T, name string, s *source.Source, at int, want api.Errno) {
	t.Helper()
	reads := s.Reads()
	if n, e := s.Node(at); e != want || !node.Same(n, api.Node{}) {
		t.Errorf("%s: Node(%d) = %+v, %v, want %v", name, at, n, e, want)
	}
	if s.Reads() != reads+1 {
		t.Errorf("%s: %d reads behind %d", name, s.Reads(), reads)
	}
}

func TestP37_1_Arena(t *testing.T) {
	a := cube(t, tiered(4, 5), 12)
	s := source.Arena(a)
	if s.Top() != a.Top() || s.Reads() != 0 {
		t.Errorf("Top = %d, want %d; %d reads", s.Top(), a.Top(), s.Reads())
	}
	for i, n := range a.Nodes() {
		wantNode(t, "an arena", s, i, n)
	}
	for _, at := range []int{-1, a.Len(), least, most} {
		wantError(t, "an arena", s, at, api.ErrRange)
	}
	if s.Reads() != a.Len()+4 {
		t.Errorf("%d reads", s.Reads())
	}
	empty, _ := arena.New(schema.Shape(tiered(4)), 9)
	s = source.Arena(empty)
	if s.Top() != -1 {
		t.Errorf("Top without nodes = %d", s.Top())
	}
	wantError(t, "without nodes", s, 0, api.ErrRange)
}

// TestP37_1_NotMade: a source of an arena that no call made is one; its arena answers.
func TestP37_1_NotMade(t *testing.T) {
	copied := *cube(t, tiered(4), 3)
	for name, a := range map[string]*arena.Arena{"nil": nil, "plain": {}, "a copy": &copied} {
		s := source.Arena(a)
		if s.Top() != -1 {
			t.Errorf("%s: Top = %d", name, s.Top())
		}
		for i, at := range []int{0, -1, most} {
			wantError(t, name, s, at, api.ErrNil)
			if s.Reads() != i+1 {
				t.Errorf("%s: %d reads", name, s.Reads())
			}
		}
	}
}

// TestP37_1_AsItStands: what is added to an arena, its source has.
func TestP37_1_AsItStands(t *testing.T) {
	a, _ := arena.New(api.Shape{Sizes: [][]int{{2}}, Measures: 1}, 9)
	s := source.Arena(a)
	for i := range 3 {
		c := api.Cell{Agg: one(int64(i)).Agg}
		n := api.Node{Lists: [][]api.Cell{{c}}, All: c}
		wantError(t, "ahead", s, i, api.ErrRange)
		a.Add(n)
		if s.Top() != i {
			t.Errorf("Top = %d, want %d", s.Top(), i)
		}
		wantNode(t, "behind", s, i, n)
	}
	first, _ := s.Node(0)
	first.Lists[0][0].Key = 1
	if second, _ := s.Node(0); second.Lists[0][0].Key != 0 {
		t.Error("a node that was answered shares memory")
	}
}

// begins are where nodes' bytes begin.
func begins(t *testing.T, s string) []int {
	t.Helper()
	sizes, e := stream.Sizes(s)
	if e != api.OK {
		t.Fatalf("Sizes = %v", e)
	}
	var l []int
	at := 0
	for _, n := range sizes {
		l = append(l, at)
		at += n
	}
	return l
}

// written is a cube's bytes, and where the top one's begin.
func written(t *testing.T, a *arena.Arena) (string, int) {
	t.Helper()
	s, top, e := stream.Write(a, api.MaxText)
	if e != api.OK {
		t.Fatalf("Write = %v", e)
	}
	return s, top
}

func TestP37_2_Pager(t *testing.T) {
	for _, sizes := range [][]int{{1}, {7}, {4, 5}, {3, 5, 4}, {200, 9}, {3, 200}} {
		a := cube(t, tiered(sizes...), 60)
		text, top := written(t, a)
		s := source.Pager(paged(t, text, top), a.Shape())
		if s.Top() != top || s.Reads() != 0 {
			t.Errorf("%v: Top = %d, want %d; %d reads", sizes, s.Top(), top, s.Reads())
		}
		for _, at := range begins(t, text) {
			want, e := stream.Node(a.Shape(), text, at)
			if e != api.OK {
				t.Fatalf("stream.Node = %v", e)
			}
			wantNode(t, fmt.Sprint(sizes), s, at, want)
		}
		wantError(t, fmt.Sprint(sizes), s, -1, api.ErrRange)
		wantError(t, fmt.Sprint(sizes), s, least, api.ErrRange)
		for _, at := range []int{len(text), len(text) + 1, len(text) + 300, 1 << 20, 1 << 40, most} {
			wantError(t, fmt.Sprint(sizes), s, at, api.ErrCorrupt)
		}
	}
}

// TestP37_2_NoVersion: the pager's errors, behind ErrRange.
func TestP37_2_NoVersion(t *testing.T) {
	x := api.Shape{Sizes: [][]int{{2}}, Measures: 1}
	text := "\x07\x00\x01\x00\x02\x06\x02\x06"
	copied := *paged(t, text, 0)
	blank, _ := device.New(16)
	off := disk(t, text, 0)
	down := open(t, off)
	off.Cut(nil, 0, 0)
	for name, c := range map[string]struct {
		p   *pager.Pager
		top int
		e   api.Errno
	}{
		"nil":             {nil, -1, api.ErrNil},
		"plain":           {&pager.Pager{}, -1, api.ErrNil},
		"a copy":          {&copied, -1, api.ErrNil},
		"no version":      {open(t, blank), -1, api.ErrNone},
		"power gone":      {down, 0, api.ErrDown},
		"without nodes":   {paged(t, "", 0), -1, api.ErrCorrupt},
		"no node's bytes": {paged(t, "\xff", 0), 0, api.ErrCorrupt},
	} {
		s := source.Pager(c.p, x)
		if s.Top() != c.top {
			t.Errorf("%s: Top = %d, want %d", name, s.Top(), c.top)
		}
		for _, at := range []int{0, 1, 8, 1 << 21, most} {
			wantError(t, name, s, at, c.e)
		}
		wantError(t, name, s, -1, api.ErrRange)
		wantError(t, name, s, least, api.ErrRange)
		if s.Reads() != 7 {
			t.Errorf("%s: %d reads", name, s.Reads())
		}
	}
}

// TestP37_2_OtherBytes: where no node's bytes begin, none is read.
func TestP37_2_OtherBytes(t *testing.T) {
	x := api.Shape{Sizes: [][]int{{2}}, Measures: 1}
	good := "\x07\x00\x01\x00\x02\x06\x02\x06"
	for name, c := range map[string]struct {
		x    api.Shape
		text string
	}{
		"no number":              {x, "\xff\xff\xff\xff\xff\xff\xff\xff\xff"},
		"a number that is cut":   {x, "\x80"},
		"no other form":          {x, "\x80\x07" + good[1:]},
		"more than there is":     {x, "\x08" + good[1:]},
		"far more than there is": {x, take.PutNum(1<<20) + good[1:]},
		"more than there may be": {x, take.PutNum(1<<20+1) + good[1:]},
		"a greatest number":      {x, "\xff\xff\xff\xff\xff\xff\xff\xff\xff" + good},
		"too short":              {x, "\x06" + good[1:]},
		"nothing":                {x, "\x00" + good},
		"another dimension":      {x, "\x07\x01" + good[2:]},
		"no member":              {x, "\x07\x00\x01\x02\x02\x06\x02\x06"},
		"of no shape":            {api.Shape{}, good},
		"of a shape of no tier":  {api.Shape{Sizes: [][]int{nil}, Measures: 1}, good},
		"of two tiers":           {api.Shape{Sizes: [][]int{{2, 1}}, Measures: 1}, good},
		"of two measures":        {api.Shape{Sizes: [][]int{{2}}, Measures: 2}, good},
		"of four measures":       {api.Shape{Sizes: [][]int{{2}}, Measures: 4}, good},
		"of sizes below 0":       {api.Shape{Sizes: [][]int{{least}}, Measures: 1}, good},
	} {
		s := source.Pager(paged(t, c.text, 0), c.x)
		wantError(t, name, s, 0, api.ErrCorrupt)
		if s.Top() != 0 {
			t.Errorf("%s: Top = %d", name, s.Top())
		}
	}
	c := api.Cell{Agg: one(3).Agg}
	wantNode(t, "a good one", source.Pager(paged(t, good, 0), x), 0, api.Node{Lists: [][]api.Cell{{c}}, All: c})
	// Wherever its bytes begin, and whatever stands around them.
	wantNode(t, "a good one behind others", source.Pager(paged(t, strings.Repeat("\xff", 500)+good+"\xff", 3), x), 500, api.Node{Lists: [][]api.Cell{{c}}, All: c})
}

// TestP37_2_LeadsAhead: a cell leads to a place ahead of its node's, but in the last dimension, where it leads nowhere.
func TestP37_2_LeadsAhead(t *testing.T) {
	x := api.Shape{Sizes: [][]int{{3, 2}, {2}}, Measures: 1}
	const at = 300
	for _, c := range []struct {
		first, second, upper, all int
		e                         api.Errno
	}{
		{0, 0, 0, 0, api.OK},
		{at - 1, at - 2, at - 1, at - 1, api.OK},
		{at, 0, 0, 0, api.ErrCorrupt},
		{0, at, 0, 0, api.ErrCorrupt},
		{0, 0, at, 0, api.ErrCorrupt},
		{0, 0, 0, at, api.ErrCorrupt},
		{0, at + 1, 0, 0, api.ErrCorrupt},
		{0, 0, 0, 1 << 20, api.ErrCorrupt},
	} {
		n := api.Node{Lists: [][]api.Cell{{{Key: 0, Child: c.first}, {Key: 2, Child: c.second}}, {{Key: 1, Child: c.upper}}}, All: api.Cell{Child: c.all}}
		text, e := cellcode.Put(x, n)
		if e != api.OK {
			t.Fatalf("Put = %v", e)
		}
		s := source.Pager(paged(t, strings.Repeat("\x00", at)+text, at), x)
		if c.e == api.OK {
			wantNode(t, fmt.Sprint(c), s, at, n)
		} else {
			wantError(t, fmt.Sprint(c), s, at, c.e)
		}
	}
	// Of a node at 0 no cell leads ahead, unless it is of the last dimension.
	low := api.Cell{Agg: one(1).Agg}
	leaf := api.Node{Dim: 1, Lists: [][]api.Cell{{low}}, All: low}
	text, _ := cellcode.Put(x, leaf)
	wantNode(t, "a leaf", source.Pager(paged(t, text, 0), x), 0, leaf)
	text, _ = cellcode.Put(x, api.Node{Lists: [][]api.Cell{{{}}, {{}}}})
	wantError(t, "a node that leads to itself", source.Pager(paged(t, text, 0), x), 0, api.ErrCorrupt)
}

// touched is which pages have bytes from one on.
func touched(from, n int) []int {
	var l []int
	for i := from / api.Payload; i <= (from+n-1)/api.Payload; i++ {
		l = append(l, i)
	}
	return l
}

// spoilt is a device, of whose nodes' pages only those that are good can be read.
func spoilt(t *testing.T, x api.Image, pages int, good []int) *device.Device {
	t.Helper()
	next := api.Image{Sectors: slices.Clone(x.Sectors)}
	for i := range pages {
		if !slices.Contains(good, i) {
			at := page.First(nodesFirst+i) + 1
			next.Sectors[at] = strings.Repeat("\x5a", api.Sector)
		}
	}
	d, e := device.Load(next)
	if e != api.OK {
		t.Fatalf("Load = %v", e)
	}
	return d
}

// TestP37_2_Pages: no page is read but those of the node, or of the first nine bytes from there on; each of the node's is asked for.
func TestP37_2_Pages(t *testing.T) {
	a := cube(t, tiered(20, 60), 150)
	text, top := written(t, a)
	x := disk(t, text, top).Seize()
	pages := page.Count(len(text))
	many, wide := 0, 0
	for _, at := range begins(t, text) {
		size, _ := cellcode.Size(text[at:])
		own := touched(at, size)
		may := touched(at, min(max(size, cellcode.Head), len(text)-at))
		d := spoilt(t, x, pages, may)
		p := open(t, d)
		ahead := p.Fetched()
		want, _ := stream.Node(a.Shape(), text, at)
		wantNode(t, "its pages alone", source.Pager(p, a.Shape()), at, want)
		if got := p.Fetched() - ahead; got > len(may) || got < len(own) {
			t.Fatalf("Node(%d) fetched %d pages, of %d", at, got, len(may))
		}
		for i := range own {
			less := slices.Delete(slices.Clone(may), i, i+1)
			wantError(t, "a page less", source.Pager(open(t, spoilt(t, x, pages, less)), a.Shape()), at, api.ErrCorrupt)
		}
		if len(own) > 1 {
			many++
		}
		if len(own) > 3 {
			wide++
		}
	}
	if many < 3 || wide < 1 {
		t.Errorf("only %d nodes of several pages, %d of many", many, wide)
	}
}

// TestP37_2_AsItCounts: a source goes on with the version that counts.
func TestP37_2_AsItCounts(t *testing.T) {
	x := api.Shape{Sizes: [][]int{{2}}, Measures: 1}
	first, second := "\x07\x00\x01\x00\x02\x06\x02\x06", "\x07\x00\x01\x01\x02\x04\x02\x04"
	p := paged(t, first, 0)
	s := source.Pager(p, x)
	wantError(t, "beyond the first", s, 8, api.ErrCorrupt)
	if e := p.Publish("c", first+second, 8); e != api.OK {
		t.Fatalf("Publish = %v", e)
	}
	c := api.Cell{Key: 1, Agg: one(2).Agg}
	wantNode(t, "the second", s, 8, api.Node{Lists: [][]api.Cell{{c}}, All: api.Cell{Agg: one(2).Agg}})
	if s.Top() != 8 {
		t.Errorf("Top = %d", s.Top())
	}
	if e := p.Publish("c", "", 0); e != api.OK {
		t.Fatalf("Publish = %v", e)
	}
	wantError(t, "without nodes", s, 0, api.ErrCorrupt)
	if s.Top() != -1 || s.Reads() != 3 {
		t.Errorf("Top = %d; %d reads", s.Top(), s.Reads())
	}
}

// TestP37_2_Shape: a shape is neither kept nor changed.
func TestP37_2_Shape(t *testing.T) {
	text := "\x07\x00\x01\x00\x02\x06\x02\x06"
	inner := append(make([]int, 0, 4), 2)
	sizes := append(make([][]int, 0, 4), inner)
	s := source.Pager(paged(t, text, 0), api.Shape{Sizes: sizes, Measures: 1})
	if inner[:2][1] != 0 || sizes[:2][1] != nil || inner[0] != 2 {
		t.Error("the shape was changed")
	}
	inner[0], sizes[0] = 0, nil
	c := api.Cell{Agg: one(3).Agg}
	wantNode(t, "of a shape that was changed", s, 0, api.Node{Lists: [][]api.Cell{{c}}, All: c})
}

func TestP37_3_Reads(t *testing.T) {
	a := cube(t, tiered(4, 5), 12)
	text, top := written(t, a)
	p := paged(t, text, top)
	for name, s := range map[string]*source.Source{"an arena": source.Arena(a), "pages": source.Pager(p, a.Shape())} {
		for i := range 50 {
			if s.Reads() != i {
				t.Fatalf("%s: %d reads, want %d", name, s.Reads(), i)
			}
			s.Node([]int{0, s.Top(), -1, 3, most}[i%5])
		}
	}
	// Two sources know nothing of one another.
	first, second := source.Pager(p, a.Shape()), source.Pager(p, a.Shape())
	first.Node(0)
	if first.Reads() != 1 || second.Reads() != 0 {
		t.Errorf("%d and %d reads", first.Reads(), second.Reads())
	}
}

func TestP37_3_NotMade(t *testing.T) {
	made := source.Arena(cube(t, tiered(4, 5), 12))
	made.Node(0)
	copied := *made
	for name, s := range map[string]*source.Source{"nil": nil, "plain": {}, "a copy": &copied} {
		for _, at := range []int{0, -1, most} {
			if n, e := s.Node(at); e != api.ErrNil || !node.Same(n, api.Node{}) {
				t.Errorf("%s: Node(%d) = %v, %v", name, at, n, e)
			}
		}
		if s.Top() != -1 || s.Reads() != 0 {
			t.Errorf("%s: Top = %d; %d reads", name, s.Top(), s.Reads())
		}
	}
	if made.Reads() != 1 {
		t.Errorf("%d reads", made.Reads())
	}
}

// TestP37_4_Any: whatever bytes the pages have, from each node that is read each cell leads ahead.
func TestP37_4_Any(t *testing.T) {
	a := cube(t, tiered(4, 5, 3), 30)
	text, top := written(t, a)
	r := rand.New(rand.NewSource(374))
	nodes, errors := 0, 0
	for range 60 {
		b := []byte(text)
		for range r.Intn(200) {
			b[r.Intn(len(b))] = byte(r.Intn(256) >> r.Intn(8))
		}
		s := source.Pager(paged(t, string(b), top), a.Shape())
		for at := range len(b) {
			n, e := s.Node(at)
			switch {
			case e == api.ErrCorrupt && node.Same(n, api.Node{}):
				errors++
			case e != api.OK || node.Check(a.Shape(), n) != api.OK:
				t.Fatalf("Node(%d) = %+v, %v", at, n, e)
			default:
				nodes++
				for _, c := range node.Each(n) {
					if !node.Last(a.Shape(), n.Dim) && c.Child >= at {
						t.Fatalf("Node(%d) leads to %d", at, c.Child)
					}
				}
			}
		}
	}
	if nodes < 1000 || errors < 1000 {
		t.Errorf("only %d nodes, %d errors", nodes, errors)
	}
}
