package cellcode_test

import (
	"math"
	"math/rand"
	"slices"
	"strings"
	"testing"

	"pithead/agg"
	"pithead/api"
	"pithead/cellcode"
	"pithead/node"
	"pithead/num"
	"pithead/take"
)

const most, least = math.MaxInt64, math.MinInt64

// one is the aggregate of a row's values.
func one(v ...int64) api.Agg {
	a, _ := agg.Of(v...)
	return a
}

// led is a cell that leads to a node, sum one of an aggregate.
func led(key, child int) api.Cell { return api.Cell{Key: key, Child: child} }

func sum(key int, v ...int64) api.Cell { return api.Cell{Key: key, Agg: one(v...)} }

// shape is of three dimensions, of which the second one has two tiers, and the last one three.
func shape() api.Shape {
	return api.Shape{Sizes: [][]int{{200}, {5, 3}, {7, 4, 2}}, Measures: 2}
}

// single is the shape of a dimension of one tier, and one measure.
func single(size int) api.Shape { return api.Shape{Sizes: [][]int{{size}}, Measures: 1} }

// high, mid, low are nodes of the three dimensions.
func high() api.Node {
	return api.Node{Lists: [][]api.Cell{{led(3, 127), led(4, 128), led(199, 16384)}}, All: led(0, 5)}
}

func mid() api.Node {
	return api.Node{Dim: 1, Lists: [][]api.Cell{{led(0, 0), led(2, 7), led(4, 1)}, {led(1, 3)}}, All: led(0, 9)}
}

func low() api.Node {
	two := api.Agg{Count: 2, M: [3]api.Part{{Sum: 3, Min: 1, Max: 2}, {Sum: -3, Min: -2, Max: -1}}}
	return api.Node{
		Dim:   2,
		Lists: [][]api.Cell{{sum(1, 1, -1), sum(6, 2, -2)}, {sum(2, 1, -1)}, {{Key: 0, Agg: two}}},
		All:   api.Cell{Agg: two},
	}
}

// changed is a node of which a copy was changed.
func changed(n api.Node, change func(n *api.Node)) api.Node {
	n = node.Clone(n)
	change(&n)
	return n
}

// wantBytes: a node's bytes are a text's with how many there are ahead, and lead back.
func wantBytes(t *testing.T, name string, x api.Shape, n api.Node, body string) {
	t.Helper()
	before := node.Clone(n)
	s, e := cellcode.Put(x, n)
	if want := take.PutText(body); s != want || e != api.OK {
		t.Errorf("%s: Put = %x, %v, want %x", name, s, e, want)
		return
	}
	if !node.Same(n, before) {
		t.Errorf("%s: Put has changed the node", name)
	}
	for _, behind := range []string{"", "\x00", s, "\xff\xff"} {
		got, size, e := cellcode.Take(x, s+behind)
		if !node.Same(got, n) || size != len(s) || e != api.OK {
			t.Errorf("%s: Take = %v, %d, %v, want %v", name, got, size, e, n)
		}
	}
}

func TestP32_1_Put(t *testing.T) {
	wantBytes(t, "the document's", single(1), api.Node{Lists: [][]api.Cell{{sum(0, 3)}}, All: sum(0, 3)}, "\x00\x01\x00\x02\x06\x02\x06")
	wantBytes(t, "of the first dimension", shape(), high(), "\x00"+"\x03"+"\x03\x7f"+"\x00\x80\x80"+"\x80\xc2\xc0\x40\x00"+"\x05")
	wantBytes(t, "of two tiers", shape(), mid(), "\x01"+"\x03"+"\x00\x00"+"\x01\x07"+"\x01\x01"+"\x01"+"\x01\x03"+"\x09")
	two := "\x04" + "\x06\x02\x04" + "\x05\x03\x01"
	wantBytes(t, "of the last dimension", shape(), low(), "\x02"+"\x02"+"\x01\x02\x02\x01"+"\x04\x02\x04\x03"+"\x01"+"\x02\x02\x02\x01"+"\x01"+"\x00"+two+two)
	far := changed(mid(), func(n *api.Node) { n.All.Child = api.MaxText })
	wantBytes(t, "far away", shape(), far, "\x01"+"\x03"+"\x00\x00"+"\x01\x07"+"\x01\x01"+"\x01"+"\x01\x03"+"\xd0\x00\x00")
}

// TestP32_1_Long: how many bytes follow is told in as many bytes as it takes.
func TestP32_1_Long(t *testing.T) {
	for _, many := range []int{1, 40, 41, 42, 100, 200} {
		n := api.Node{All: sum(0, 1)}
		var body strings.Builder
		body.WriteString("\x00" + take.PutNum(many))
		n.Lists = [][]api.Cell{nil}
		for key := range many {
			n.Lists[0] = append(n.Lists[0], sum(key, 1))
			body.WriteString("\x00\x02\x02")
		}
		body.WriteString("\x02\x02")
		wantBytes(t, "long", single(200), n, body.String())
	}
	longest := api.Node{All: sum(0, 1)}
	for range api.MaxTiers {
		var l []api.Cell
		for key := range api.MaxMembers {
			l = append(l, api.Cell{Key: key, Agg: api.Agg{Count: most, M: [3]api.Part{{Sum: least, Min: least, Max: most}, {Sum: most, Min: least, Max: most}, {Sum: 1, Min: least, Max: least}}}})
		}
		longest.Lists = append(longest.Lists, l)
	}
	for i := range longest.All.Agg.M {
		longest.All.Agg.M[i] = api.Part{Sum: 1, Min: 1, Max: 1}
	}
	x := api.Shape{Sizes: [][]int{{200, 200, 200, 200}}, Measures: 3}
	s, e := cellcode.Put(x, longest)
	if n, size, f := cellcode.Take(x, s); e != api.OK || f != api.OK || size != len(s) || !node.Same(n, longest) {
		t.Errorf("the longest: %v, %d of %d bytes, %v", e, size, len(s), f)
	}
}

// refused are nodes that may not be of the shape, and node's Check's errors.
func refused() map[string]struct {
	n api.Node
	e api.Errno
} {
	type odd = struct {
		n api.Node
		e api.Errno
	}
	return map[string]odd{
		"nothing":                {api.Node{}, api.ErrArg},
		"a dimension too far":    {changed(low(), func(n *api.Node) { n.Dim = 3 }), api.ErrArg},
		"a dimension below 0":    {changed(low(), func(n *api.Node) { n.Dim = -1 }), api.ErrArg},
		"another dimension":      {changed(mid(), func(n *api.Node) { n.Dim = 0 }), api.ErrArg},
		"a list too few":         {changed(mid(), func(n *api.Node) { n.Lists = n.Lists[:1] }), api.ErrArg},
		"a list without cells":   {changed(mid(), func(n *api.Node) { n.Lists[1] = nil }), api.ErrArg},
		"no member":              {changed(mid(), func(n *api.Node) { n.Lists[0][2].Key = 5 }), api.ErrMember},
		"a member below 0":       {changed(mid(), func(n *api.Node) { n.Lists[0][0].Key = -1 }), api.ErrMember},
		"a key twice":            {changed(mid(), func(n *api.Node) { n.Lists[0][1].Key = 0 }), api.ErrOrder},
		"a longer second list":   {changed(mid(), func(n *api.Node) { n.Lists[0], n.Lists[1] = n.Lists[0][:1], []api.Cell{led(0, 1), led(1, 1)} }), api.ErrTree},
		"a child below 0":        {changed(mid(), func(n *api.Node) { n.Lists[1][0].Child = -1 }), api.ErrArg},
		"all of a key":           {changed(mid(), func(n *api.Node) { n.All.Key = 1 }), api.ErrArg},
		"all below 0":            {changed(mid(), func(n *api.Node) { n.All.Child = least }), api.ErrArg},
		"a child and a value":    {changed(mid(), func(n *api.Node) { n.Lists[0][0].Agg = one(1, 1) }), api.ErrArg},
		"a value and a child":    {changed(low(), func(n *api.Node) { n.Lists[0][0].Child = 1 }), api.ErrArg},
		"no rows":                {changed(low(), func(n *api.Node) { n.Lists[0][0].Agg = api.Agg{} }), api.ErrArg},
		"no rows of all":         {changed(low(), func(n *api.Node) { n.All.Agg.Count = 0 }), api.ErrArg},
		"a measure more":         {changed(low(), func(n *api.Node) { n.All.Agg.M[2].Max = 1 }), api.ErrArg},
		"a least above greatest": {changed(low(), func(n *api.Node) { n.All.Agg.M[0].Min = 5 }), api.ErrArg},
	}
}

func TestP32_1_Errors(t *testing.T) {
	for name, c := range refused() {
		if s, e := cellcode.Put(shape(), c.n); s != "" || e != c.e {
			t.Errorf("%s: Put = %x, %v, want %v", name, s, e, c.e)
		}
	}
	for name, x := range map[string]api.Shape{
		"no shape": {}, "no tiers": {Sizes: [][]int{{}}, Measures: 1}, "sizes below 0": {Sizes: [][]int{{least}}, Measures: 1},
		"no measures that may be": {Sizes: [][]int{{5}}, Measures: 4}, "less than no measures": {Sizes: [][]int{{5}}, Measures: -1},
	} {
		if s, e := cellcode.Put(x, api.Node{Lists: [][]api.Cell{{sum(0, 3)}}, All: sum(0, 3)}); s != "" || e == api.OK {
			t.Errorf("%s: Put = %x, %v", name, s, e)
		}
	}
}

func TestP32_2_Size(t *testing.T) {
	if cellcode.Head != 9 || num.Size(math.MaxUint64) != cellcode.Head {
		t.Error("Head")
	}
	for _, c := range []struct {
		s    string
		size int
		e    api.Errno
	}{
		{"\x00", 1, api.OK}, {"\x00abc", 1, api.OK},
		{"\x07", 8, api.OK}, {"\x07\x00\x01\x00\x02\x06\x02\x06", 8, api.OK}, {"\x7f", 128, api.OK},
		{"\x80\x80", 130, api.OK}, {"\xbf\xff", 16385, api.OK}, {"\xc0\x40\x00", 16387, api.OK},
		{num.Put(api.MaxText), api.MaxText + 3, api.OK}, {num.Put(api.MaxText) + "a", api.MaxText + 3, api.OK},
		{num.Put(api.MaxText - 1), api.MaxText + 2, api.OK},
		{num.Put(api.MaxText + 1), 0, api.ErrCorrupt}, {num.Put(most), 0, api.ErrCorrupt},
		{num.Put(math.MaxUint64), 0, api.ErrCorrupt}, {num.Put(1 << 63), 0, api.ErrCorrupt}, {num.Put(1<<32 + 3), 0, api.ErrCorrupt},
		{"", 0, api.ErrCorrupt}, {"\x80", 0, api.ErrCorrupt}, {"\x80\x07", 0, api.ErrCorrupt}, {"\xff", 0, api.ErrCorrupt}, {"\xc0\x40", 0, api.ErrCorrupt},
	} {
		if size, e := cellcode.Size(c.s); size != c.size || e != c.e {
			t.Errorf("Size(%x) = %d, %v, want %d, %v", c.s, size, e, c.size, c.e)
		}
	}
}

// wantNone: no node is taken from a text.
func wantNone(t *testing.T, name string, x api.Shape, s string) {
	t.Helper()
	if n, size, e := cellcode.Take(x, s); !node.Same(n, api.Node{}) || size != 0 || e != api.ErrCorrupt {
		t.Errorf("%s: Take(%x) = %v, %d, %v", name, s, n, size, e)
	}
}

// TestP32_2_Take: bytes that are no node's.
func TestP32_2_Take(t *testing.T) {
	for name, s := range map[string]string{
		"nothing":                        "",
		"no number":                      "\x80",
		"a longer form":                  "\x80\x07" + "\x00\x01\x00\x02\x06\x02\x06",
		"too long":                       num.Put(api.MaxText + 1),
		"cut off":                        "\x07" + "\x00\x01\x00\x02\x06\x02",
		"no bytes":                       "\x00",
		"a byte left":                    "\x08" + "\x00\x01\x00\x02\x06\x02\x06\x00",
		"a byte too few":                 "\x06" + "\x00\x01\x00\x02\x06\x02\x06",
		"another dimension":              "\x07" + "\x01\x01\x00\x02\x06\x02\x06",
		"a dimension of a longer form":   "\x08" + "\x80\x00\x01\x00\x02\x06\x02\x06",
		"no cells":                       "\x04" + "\x00\x00\x02\x06",
		"more cells than the tier":       take.PutText("\x00\x04" + strings.Repeat("\x00\x02\x06", 4) + "\x02\x06"),
		"no member":                      "\x07" + "\x00\x01\x03\x02\x06\x02\x06",
		"more left out than the tier":    "\x07" + "\x00\x01\x04\x02\x06\x02\x06",
		"a second cell that is none":     "\x0a" + "\x00\x02\x00\x02\x06\x02\x02\x06\x02\x06",
		"no rows":                        "\x06" + "\x00\x01\x00\x00\x02\x06",
		"less than no rows":              "\x07" + "\x00\x01\x00\x01\x06\x02\x06",
		"no rows of all":                 "\x07" + "\x00\x01\x00\x02\x06\x00\x06",
		"a least above the greatest":     "\x09" + "\x00\x01\x00\x04\x06\x04\x02\x02\x06",
		"a value of a longer form":       "\x08" + "\x00\x01\x00\x02\x80\x06\x02\x06",
		"nothing of all":                 "\x05" + "\x00\x01\x00\x02\x06",
		"far more cells than there are":  take.PutText("\x00" + num.Put(most)),
		"far more left out than can be":  take.PutText("\x00\x01" + num.Put(most) + "\x02\x06\x02\x06"),
		"more left out than is a number": take.PutText("\x00\x01" + num.Put(math.MaxUint64) + "\x02\x06\x02\x06"),
	} {
		wantNone(t, name, single(3), s)
	}
	for name, s := range map[string]string{
		"no dimension":             "\x04" + "\x03\x01\x00\x00",
		"a list too few":           "\x05" + "\x01\x01\x00\x00\x00",
		"a longer second list":     take.PutText("\x01" + "\x01\x00\x00" + "\x02\x00\x00\x00\x00" + "\x00"),
		"no cells in the second":   take.PutText("\x01" + "\x01\x00\x00" + "\x00" + "\x00"),
		"no member of the second":  take.PutText("\x01" + "\x01\x00\x00" + "\x01\x03\x00" + "\x00"),
		"a child beyond 2^20":      take.PutText("\x00" + "\x01\x00" + num.Put(api.MaxText+1) + "\x00"),
		"all beyond 2^20":          take.PutText("\x00" + "\x01\x00\x00" + num.Put(api.MaxText+1)),
		"a child beyond a number":  take.PutText("\x00" + "\x01\x00" + num.Put(math.MaxUint64) + "\x00"),
		"a child of a longer form": take.PutText("\x00" + "\x01\x00" + "\x80\x01" + "\x00"),
	} {
		wantNone(t, name, shape(), s)
	}
	far := take.PutText("\x00" + "\x01\x00" + num.Put(api.MaxText) + num.Put(api.MaxText))
	if n, _, e := cellcode.Take(shape(), far); e != api.OK || n.All.Child != api.MaxText || n.Lists[0][0].Child != api.MaxText {
		t.Errorf("a child of 2^20: %v, %v", n, e)
	}
}

// TestP32_2_Shapes: shapes made by hand.
func TestP32_2_Shapes(t *testing.T) {
	s, _ := cellcode.Put(single(3), api.Node{Lists: [][]api.Cell{{sum(0, 3), sum(2, 4)}}, All: sum(0, 3)})
	huge := take.PutText("\x00\x02" + num.Put(most) + "\x02\x06" + num.Put(most) + "\x02\x06" + "\x02\x06")
	round := take.PutText("\x00\x03" + num.Put(most-1) + "\x02\x06" + num.Put(most) + "\x02\x06" + num.Put(1) + "\x02\x06" + "\x02\x06")
	for name, x := range map[string]api.Shape{
		"nothing":               {},
		"no dimensions":         {Measures: 1},
		"no tiers":              {Sizes: [][]int{{}}, Measures: 1},
		"no tiers, nil":         {Sizes: [][]int{nil}, Measures: 1},
		"no members":            {Sizes: [][]int{{0}}, Measures: 1},
		"less than no members":  {Sizes: [][]int{{-1}}, Measures: 1},
		"far less than none":    {Sizes: [][]int{{least}}, Measures: 1},
		"four measures":         {Sizes: [][]int{{3}}, Measures: 4},
		"less than no measures": {Sizes: [][]int{{3}}, Measures: -1},
		"two measures":          {Sizes: [][]int{{3}}, Measures: 2},
		"a dimension more":      {Sizes: [][]int{{3}, {3}}, Measures: 1},
		"a tier more":           {Sizes: [][]int{{3, 3}}, Measures: 1},
		"two members":           {Sizes: [][]int{{2}}, Measures: 1},
	} {
		for _, s := range []string{s, "\x00", "\x01\x00", "\x02\x00\x00", "\x04\x00\x00\x02\x06", huge, round} {
			wantNone(t, name, x, s)
		}
	}
	wantNone(t, "so many members that keys go round", single(most), huge)
	wantNone(t, "so many members that keys go round, and back", single(most), round)
	wide := take.PutText("\x00\x02" + num.Put(1<<40) + "\x02\x06" + "\x00" + "\x02\x06" + "\x02\x06")
	if n, _, e := cellcode.Take(single(most), wide); e != api.OK || n.Lists[0][1].Key != 1<<40+1 {
		t.Errorf("so many members: %v, %v", n, e)
	}
}

// TestP32_2_CutOff: no beginning of a node's bytes is one, nor is another number of bytes ahead.
func TestP32_2_CutOff(t *testing.T) {
	for _, n := range []api.Node{high(), mid(), low()} {
		s, _ := cellcode.Put(shape(), n)
		for i := range len(s) {
			wantNone(t, "cut off", shape(), s[:i])
			wantNone(t, "behind its beginning", shape(), take.PutText(s[1:][:max(i-1, 0)]))
		}
		wantNone(t, "a byte more", shape(), take.PutText(s[1:]+"\x00"))
	}
}

// TestP32_3_Move: each Child in its place, of another dimension than the last one.
func TestP32_3_Move(t *testing.T) {
	for _, c := range []struct {
		name  string
		n     api.Node
		want  api.Node
		asked []int
	}{
		{"of the first dimension", high(), changed(high(), func(n *api.Node) {
			n.Lists[0] = []api.Cell{led(3, 1127), led(4, 1128), led(199, 17384)}
			n.All.Child = 1005
		}), []int{127, 128, 16384, 5}},
		{"of two tiers", mid(), changed(mid(), func(n *api.Node) {
			n.Lists = [][]api.Cell{{led(0, 1000), led(2, 1007), led(4, 1001)}, {led(1, 1003)}}
			n.All.Child = 1009
		}), []int{0, 7, 1, 3, 9}},
		{"of the last dimension", low(), low(), nil},
		{"below the first one", api.Node{Dim: -1, All: led(3, 4)}, api.Node{Dim: -1, All: led(3, 1004)}, []int{4}},
		{"beyond the last one", api.Node{Dim: 9, Lists: [][]api.Cell{nil, {led(most, -4)}}}, api.Node{Dim: 9, Lists: [][]api.Cell{nil, {led(most, 996)}}, All: led(0, 1000)}, []int{-4, 0}},
		{"with a value", api.Node{All: sum(5, 1)}, api.Node{All: api.Cell{Key: 5, Child: 1000, Agg: one(1)}}, []int{0}},
	} {
		before := node.Clone(c.n)
		var asked []int
		got := cellcode.Move(shape(), c.n, func(child int) int {
			asked = append(asked, child)
			return child + 1000
		})
		if !node.Same(got, c.want) || !slices.Equal(asked, c.asked) {
			t.Errorf("%s: Move = %v, of %v", c.name, got, asked)
		}
		if !node.Same(c.n, before) {
			t.Errorf("%s: Move has changed the node", c.name)
		}
	}
	last := api.Node{Dim: -1, Lists: [][]api.Cell{{led(0, 3)}}}
	if got := cellcode.Move(api.Shape{}, last, func(int) int { return 7 }); !node.Same(got, last) {
		t.Errorf("of a shape without dimensions -1 is the last one: %v", got)
	}
}

// TestP32_3_IsNew: what Move answers shares nothing with the node, nor what Take answers with another answer.
func TestP32_3_IsNew(t *testing.T) {
	for _, n := range []api.Node{mid(), low()} {
		roomy := node.Clone(n)
		roomy.Lists[0] = append(roomy.Lists[0], led(77, 77))[:len(n.Lists[0])]
		got := cellcode.Move(shape(), roomy, func(child int) int { return child })
		s, _ := cellcode.Put(shape(), n)
		taken, _, _ := cellcode.Take(shape(), s)
		again, _, _ := cellcode.Take(shape(), s)
		for _, spoilt := range []api.Node{got, taken} {
			for k, l := range spoilt.Lists {
				l = l[:cap(l)]
				for i := range l {
					l[i] = led(55, 55)
				}
				spoilt.Lists[k] = nil
			}
		}
		if !node.Same(roomy, n) || roomy.Lists[0][:len(n.Lists[0])+1][len(n.Lists[0])] != led(77, 77) || !node.Same(again, n) {
			t.Error("what is answered shares something")
		}
	}
}

// random is a node of a shape's dimension.
func random(r *rand.Rand, x api.Shape) api.Node {
	n := api.Node{Dim: r.Intn(len(x.Sizes))}
	cell := func(key int) api.Cell {
		if n.Dim < len(x.Sizes)-1 {
			return led(key, r.Intn(api.MaxText+1)>>r.Intn(21))
		}
		var g api.Agg
		for range 1 + r.Intn(2) {
			var values []int64
			for range x.Measures {
				values = append(values, int64(r.Uint64())>>(1+r.Intn(63)))
			}
			g, _ = agg.Join(g, one(values...))
		}
		return api.Cell{Key: key, Agg: g}
	}
	many := x.Sizes[n.Dim][0]
	for _, size := range x.Sizes[n.Dim] {
		many = 1 + r.Intn(min(many, size))
		var l []api.Cell
		for _, key := range slices.Sorted(slices.Values(r.Perm(size)[:many])) {
			l = append(l, cell(key))
		}
		n.Lists = append(n.Lists, l)
	}
	n.All = cell(0)
	return n
}

// TestP32_4_LeadsBack: Take leads back from Put; and what is taken, put, is those bytes, however they came about.
func TestP32_4_LeadsBack(t *testing.T) {
	r := rand.New(rand.NewSource(32))
	taken := 0
	for range 3000 {
		x := shape()
		if r.Intn(2) == 0 {
			x = api.Shape{Sizes: [][]int{{200, 200, 3}, {1 + r.Intn(200)}}, Measures: 1 + r.Intn(3)}
		}
		n := random(r, x)
		s, e := cellcode.Put(x, n)
		got, size, f := cellcode.Take(x, s)
		if e != api.OK || f != api.OK || size != len(s) || !node.Same(got, n) {
			t.Fatalf("%v: Put = %x, %v; Take = %v, %d, %v", n, s, e, got, size, f)
		}
		b := []byte(s)
		for range 1 + r.Intn(3) {
			b[r.Intn(len(b))] ^= 1 << r.Intn(8)
		}
		got, size, e = cellcode.Take(x, string(b))
		if e != api.OK {
			continue
		}
		taken++
		if again, e := cellcode.Put(x, got); e != api.OK || again != string(b[:size]) {
			t.Fatalf("%x, taken, put: %x, %v", b, again, e)
		}
	}
	if taken < 100 {
		t.Errorf("only %d turned texts were nodes", taken)
	}
}

// TestP32_4_TooFar: a Child above 2^20 is put, but not taken.
func TestP32_4_TooFar(t *testing.T) {
	for _, child := range []int{api.MaxText + 1, 1 << 40, most} {
		n := changed(mid(), func(n *api.Node) { n.Lists[0][1].Child = child })
		s, e := cellcode.Put(shape(), n)
		if e != api.OK || !strings.Contains(s, num.Put(uint64(child))) {
			t.Errorf("Put = %x, %v", s, e)
		}
		wantNone(t, "too far", shape(), s)
	}
}
