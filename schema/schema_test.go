package schema_test

import (
	"fmt"
	"math/rand"
	"slices"
	"strings"
	"testing"

	"pithead/api"
	"pithead/schema"
	"pithead/take"
)

// flat is a dimension of one tier.
func flat(name string, terms ...string) api.Dim {
	return api.Dim{Name: name, Tiers: []api.Tier{{Name: "t", Terms: terms}}}
}

// tall is a dimension of two tiers.
func tall(name string) api.Dim {
	return api.Dim{Name: name, Tiers: []api.Tier{
		{Name: "low", Terms: []string{"x", "y", "z"}, Up: []int{0, 0, 1}},
		{Name: "top", Terms: []string{"p", "q"}},
	}}
}

// two is a schema of two dimensions and two measures.
func two() api.Schema {
	return api.Schema{Dims: []api.Dim{flat("d", "a", "b"), tall("e")}, Measures: []string{"m", "n"}}
}

const bytesOfTwo = "\x02" +
	"\x01d\x01\x01t\x02\x00\x01a\x00\x01b" +
	"\x01e\x02\x03top\x02\x00\x01p\x00\x01q\x03low\x03\x00\x01x\x00\x01y\x00\x01z\x00\x00\x01" +
	"\x02\x01m\x01n"

// wide is a schema of so many dimensions, and so many measures.
func wide(dims, measures int) api.Schema {
	var s api.Schema
	for i := range dims {
		s.Dims = append(s.Dims, flat(fmt.Sprintf("d%d", i), "a"))
	}
	for i := range measures {
		s.Measures = append(s.Measures, fmt.Sprintf("m%d", i))
	}
	return s
}

// changed is the schema two behind a change.
func changed(change func(s *api.Schema)) api.Schema {
	s := two()
	change(&s)
	return s
}

func cloneDim(d api.Dim) api.Dim {
	c := api.Dim{Name: d.Name}
	for _, t := range d.Tiers {
		c.Tiers = append(c.Tiers, api.Tier{Name: t.Name, Terms: slices.Clone(t.Terms), Up: slices.Clone(t.Up)})
	}
	return c
}

func clone(s api.Schema) api.Schema {
	c := api.Schema{Measures: slices.Clone(s.Measures)}
	for _, d := range s.Dims {
		c.Dims = append(c.Dims, cloneDim(d))
	}
	return c
}

func sameTier(a, b api.Tier) bool {
	return a.Name == b.Name && slices.Equal(a.Terms, b.Terms) && slices.Equal(a.Up, b.Up)
}

func sameDim(a, b api.Dim) bool {
	return a.Name == b.Name && slices.EqualFunc(a.Tiers, b.Tiers, sameTier)
}

func same(a, b api.Schema) bool {
	return slices.EqualFunc(a.Dims, b.Dims, sameDim) && slices.Equal(a.Measures, b.Measures)
}

// checkCase is a schema, and what Check says.
type checkCase struct {
	name string
	s    api.Schema
	e    api.Errno
}

func checkCases() []checkCase {
	return append(checkCasesOfMeasures(), []checkCase{
		{"two dimensions", two(), api.OK},
		{"one of each", wide(1, 1), api.OK},
		{"as many as may be", wide(16, 3), api.OK},
		{"a dimension, a tier, a measure of one name", api.Schema{Dims: []api.Dim{{Name: "x", Tiers: []api.Tier{{Name: "x", Terms: []string{"x"}}}}}, Measures: []string{"x"}}, api.OK},
		{"two dimensions of one tier's name", api.Schema{Dims: []api.Dim{flat("d", "a"), flat("e", "a")}, Measures: []string{"m"}}, api.OK},

		{"nothing", api.Schema{}, api.ErrLimit},
		{"no dimensions", wide(0, 1), api.ErrLimit},
		{"no dimensions, and a measure that may not be", api.Schema{Measures: []string{"M"}}, api.ErrLimit},
		{"17 dimensions", wide(17, 1), api.ErrLimit},
		{"17 dimensions that may not be", api.Schema{Dims: make([]api.Dim, 17), Measures: []string{"m"}}, api.ErrLimit},
		{"a dimension without a name", changed(func(s *api.Schema) { s.Dims[0].Name = "" }), api.ErrArg},
		{"a dimension without tiers", changed(func(s *api.Schema) { s.Dims[1].Tiers = nil }), api.ErrLimit},
		{"members that fall", changed(func(s *api.Schema) { s.Dims[0].Tiers[0].Terms[0] = "z" }), api.ErrOrder},
		{"tiers that are no tree", changed(func(s *api.Schema) { s.Dims[1].Tiers[0].Up[2] = 0 }), api.ErrTree},
		{"a dimension with one tier's name twice", changed(func(s *api.Schema) { s.Dims[1].Tiers[0].Name = "top" }), api.ErrTwice},
		{"one name twice", changed(func(s *api.Schema) { s.Dims[1].Name = "d" }), api.ErrTwice},
		{"one name twice, far off", changed(func(s *api.Schema) { s.Dims = append(s.Dims, flat("d", "a")) }), api.ErrTwice},
		{"one name twice, with a fault", changed(func(s *api.Schema) { s.Dims[1].Name = "d"; s.Dims[1].Tiers[1].Name = "" }), api.ErrArg},
		{"one name twice, ahead of a fault", changed(func(s *api.Schema) { s.Dims[1].Name = "d"; s.Dims = append(s.Dims, api.Dim{}) }), api.ErrTwice},
		{"a fault ahead of one name twice", changed(func(s *api.Schema) { s.Dims[0].Tiers[0].Terms[0] = "z"; s.Dims[1].Name = "d" }), api.ErrOrder},
	}...)
}

func checkCasesOfMeasures() []checkCase {
	return []checkCase{
		{"the longest name of a measure", changed(func(s *api.Schema) { s.Measures[1] = "abcdefghi_12" }), api.OK},
		{"no measures", wide(2, 0), api.ErrLimit},
		{"no measures, an empty list", changed(func(s *api.Schema) { s.Measures = []string{} }), api.ErrLimit},
		{"four measures", wide(2, 4), api.ErrLimit},
		{"four measures that may not be", changed(func(s *api.Schema) { s.Measures = []string{"", "", "", ""} }), api.ErrLimit},
		{"a measure without a name", changed(func(s *api.Schema) { s.Measures[0] = "" }), api.ErrArg},
		{"a measure's name too long", changed(func(s *api.Schema) { s.Measures[1] = "abcdefghijklm" }), api.ErrArg},
		{"a measure with a capital letter", changed(func(s *api.Schema) { s.Measures[1] = "N" }), api.ErrArg},
		{"a measure twice", changed(func(s *api.Schema) { s.Measures[1] = "m" }), api.ErrTwice},
		{"a measure twice, far off", changed(func(s *api.Schema) { s.Measures = []string{"m", "n", "m"} }), api.ErrTwice},
		{"a measure twice, ahead of one that may not be", changed(func(s *api.Schema) { s.Measures = []string{"m", "m", ""} }), api.ErrTwice},
		{"a measure that may not be twice", changed(func(s *api.Schema) { s.Measures = []string{"M", "M"} }), api.ErrArg},
		{"a dimension's fault, and no measures", changed(func(s *api.Schema) { s.Dims[1].Name = "d"; s.Measures = nil }), api.ErrTwice},
		{"a dimension's fault, and a measure's", changed(func(s *api.Schema) { s.Dims[0].Tiers[0].Terms[0] = "z"; s.Measures[0] = "" }), api.ErrOrder},
	}
}

func TestP17_1_Check(t *testing.T) {
	for _, c := range checkCases() {
		before := clone(c.s)
		if e := schema.Check(c.s); e != c.e {
			t.Errorf("%s: Check = %v, want %v", c.name, e, c.e)
		}
		if !same(before, c.s) {
			t.Errorf("%s: Check has changed its schema", c.name)
		}
	}
}

// TestP17_1_End: what stands behind a list's end is not looked at.
func TestP17_1_End(t *testing.T) {
	s := two()
	s.Dims, s.Measures = append(s.Dims, api.Dim{Name: "d"})[:2], append(s.Measures, "m")[:2]
	if e := schema.Check(s); e != api.OK {
		t.Errorf("Check = %v", e)
	}
	if x := schema.Shape(s); len(x.Sizes) != 2 || x.Measures != 2 {
		t.Errorf("Shape = %v", x)
	}
	s.Dims, s.Measures = s.Dims[:1], s.Measures[:1]
	if at, is := schema.Dim(s, "e"); at != 0 || is {
		t.Errorf("Dim = %d, %v", at, is)
	}
	if at, is := schema.Measure(s, "n"); at != 0 || is {
		t.Errorf("Measure = %d, %v", at, is)
	}
	if l, e := schema.Row(s, api.Row{Terms: []string{"b"}, Values: []int64{7}}); e != api.OK || !slices.Equal(l, []int{1}) {
		t.Errorf("Row = %v, %v", l, e)
	}
	if l, e := schema.Row(s, api.Row{Terms: []string{"b", "x"}[:1], Values: []int64{7, 8}[:1]}); e != api.OK || !slices.Equal(l, []int{1}) {
		t.Errorf("Row = %v, %v", l, e)
	}
}

func TestP17_1_Shape(t *testing.T) {
	odd := api.Schema{Dims: []api.Dim{{}, {Tiers: []api.Tier{{Terms: []string{"", ""}}, {}, {Up: []int{1, 2, 3}}}}}, Measures: make([]string, 9)}
	for _, c := range []struct {
		name     string
		s        api.Schema
		sizes    [][]int
		measures int
	}{
		{"two dimensions", two(), [][]int{{2}, {3, 2}}, 2},
		{"as many as may be", wide(16, 3), slices.Repeat([][]int{{1}}, 16), 3},
		{"nothing", api.Schema{}, nil, 0},
		{"made by hand", odd, [][]int{{}, {2, 0, 0}}, 9},
	} {
		before := clone(c.s)
		x := schema.Shape(c.s)
		if x.Measures != c.measures || !slices.EqualFunc(x.Sizes, c.sizes, slices.Equal) {
			t.Errorf("%s: Shape = %v", c.name, x)
		}
		if !same(before, c.s) {
			t.Errorf("%s: Shape has changed its schema", c.name)
		}
	}
}

func TestP17_1_ShapeIsNew(t *testing.T) {
	s := two()
	x := schema.Shape(s)
	for i := range x.Sizes {
		l := x.Sizes[i]
		l = l[:cap(l)]
		for k := range l {
			l[k] = 77 + i
		}
	}
	if x.Sizes[0][0] != 77 || x.Sizes[1][0] != 78 {
		t.Errorf("two lists of one answer are one: %v", x.Sizes)
	}
	if again := schema.Shape(s); !slices.EqualFunc(again.Sizes, [][]int{{2}, {3, 2}}, slices.Equal) || !same(s, two()) {
		t.Errorf("Shape = %v behind a change of an earlier answer", again)
	}
}

func TestP17_1_DimMeasure(t *testing.T) {
	twice := api.Schema{Dims: []api.Dim{{Name: "d"}, {Name: "e"}, {Name: "e"}, {}}, Measures: []string{"m", "n", "o", "n", ""}}
	for _, c := range []struct {
		s             api.Schema
		name          string
		dim, measure  int
		isDim, isMeas bool
	}{
		{two(), "d", 0, 0, true, false}, {two(), "e", 1, 0, true, false}, {two(), "m", 0, 0, false, true}, {two(), "n", 0, 1, false, true},
		{two(), "t", 0, 0, false, false}, {two(), "", 0, 0, false, false}, {two(), "D", 0, 0, false, false}, {two(), "dd", 0, 0, false, false},
		{wide(16, 3), "d15", 15, 0, true, false}, {wide(16, 3), "m2", 0, 2, false, true}, {wide(16, 3), "d16", 0, 0, false, false}, {wide(16, 3), "d", 0, 0, false, false},
		{twice, "e", 1, 0, true, false}, {twice, "n", 0, 1, false, true}, {twice, "", 3, 4, true, true},
		{api.Schema{}, "", 0, 0, false, false}, {api.Schema{}, "d", 0, 0, false, false},
	} {
		if at, is := schema.Dim(c.s, c.name); at != c.dim || is != c.isDim {
			t.Errorf("Dim(%q) = %d, %v, want %d, %v", c.name, at, is, c.dim, c.isDim)
		}
		if at, is := schema.Measure(c.s, c.name); at != c.measure || is != c.isMeas {
			t.Errorf("Measure(%q) = %d, %v, want %d, %v", c.name, at, is, c.measure, c.isMeas)
		}
	}
}

func TestP17_1_Row(t *testing.T) {
	bare := changed(func(s *api.Schema) { s.Dims[1].Tiers = nil })
	barer := changed(func(s *api.Schema) { s.Dims[0].Tiers = []api.Tier{} })
	odd := api.Schema{Dims: []api.Dim{{Tiers: []api.Tier{{Terms: []string{"a", "b"}, Up: []int{9}}, {}}}}}
	two64 := []int64{1, -1}
	for _, c := range []struct {
		name   string
		s      api.Schema
		terms  []string
		values []int64
		want   []int
		e      api.Errno
	}{
		{"a row", two(), []string{"b", "z"}, two64, []int{1, 2}, api.OK},
		{"another row", two(), []string{"a", "y"}, []int64{0, 0}, []int{0, 1}, api.OK},
		{"of many", wide(16, 3), slices.Repeat([]string{"a"}, 16), []int64{1, 2, 3}, slices.Repeat([]int{0}, 16), api.OK},
		{"nothing of nothing", api.Schema{}, nil, nil, nil, api.OK},
		{"of one made by hand", odd, []string{"b"}, nil, []int{1}, api.OK},

		{"nothing", two(), nil, nil, nil, api.ErrArg},
		{"a term too few", two(), []string{"a"}, two64, nil, api.ErrArg},
		{"a term too many", two(), []string{"a", "x", "x"}, two64, nil, api.ErrArg},
		{"a value too few", two(), []string{"a", "x"}, []int64{1}, nil, api.ErrArg},
		{"a value too many", two(), []string{"a", "x"}, []int64{1, 2, 3}, nil, api.ErrArg},
		{"no values", two(), []string{"a", "x"}, nil, nil, api.ErrArg},
		{"a value too few, and no member", two(), []string{"c", "x"}, []int64{1}, nil, api.ErrArg},
		{"a term of nothing", api.Schema{}, []string{"a"}, nil, nil, api.ErrArg},
		{"a value of nothing", api.Schema{}, nil, []int64{1}, nil, api.ErrArg},
		{"no member of the first", two(), []string{"c", "x"}, two64, nil, api.ErrMember},
		{"no member of the last", two(), []string{"a", "w"}, two64, nil, api.ErrMember},
		{"a member of another dimension", two(), []string{"x", "a"}, two64, nil, api.ErrMember},
		{"a member of the upper tier", two(), []string{"a", "p"}, two64, nil, api.ErrMember},
		{"an empty text", two(), []string{"", "x"}, two64, nil, api.ErrMember},
		{"a long text", two(), []string{"a", strings.Repeat("x", 99)}, two64, nil, api.ErrMember},
		{"a dimension without tiers", bare, []string{"a", "x"}, two64, nil, api.ErrArg},
		{"no member ahead of a dimension without tiers", bare, []string{"c", "x"}, two64, nil, api.ErrMember},
		{"a dimension without tiers ahead of no member", barer, []string{"a", "w"}, two64, nil, api.ErrArg},
	} {
		before, row := clone(c.s), api.Row{Terms: slices.Clone(c.terms), Values: slices.Clone(c.values)}
		if l, e := schema.Row(c.s, row); e != c.e || !slices.Equal(l, c.want) {
			t.Errorf("%s: Row = %v, %v, want %v, %v", c.name, l, e, c.want, c.e)
		}
		if !same(before, c.s) || !slices.Equal(row.Terms, c.terms) || !slices.Equal(row.Values, c.values) {
			t.Errorf("%s: Row has changed what it was handed", c.name)
		}
	}
}

func TestP17_2_Put(t *testing.T) {
	for _, c := range []struct {
		name string
		s    api.Schema
		b    string
	}{
		{"two dimensions", two(), bytesOfTwo},
		{"one of each", wide(1, 1), "\x01\x02d0\x01\x01t\x01\x00\x01a\x01\x02m0"},
		{"three measures", wide(1, 3), "\x01\x02d0\x01\x01t\x01\x00\x01a\x03\x02m0\x02m1\x02m2"},
	} {
		if b, e := schema.Put(c.s); b != c.b || e != api.OK {
			t.Errorf("%s: Put = %q, %v, want %q", c.name, b, e, c.b)
		}
	}
	for _, c := range checkCases() {
		before := clone(c.s)
		b, e := schema.Put(c.s)
		if e != c.e || (e == api.OK) != (b != "") {
			t.Errorf("%s: Put = %q, %v, want %v", c.name, b, e, c.e)
		}
		if !same(before, c.s) {
			t.Errorf("%s: Put has changed its schema", c.name)
		}
	}
}

// takeCase is bytes, and what Take says.
type takeCase struct {
	name, b string
	s       api.Schema
	e       api.Errno
}

func takeCases() []takeCase {
	const d, dd = "\x01d\x01\x01t\x01\x00\x01a", "\x02dd\x01\x01t\x01\x00\x01a"
	small := api.Schema{Dims: []api.Dim{flat("d", "a")}, Measures: []string{"m"}}
	var sixteen string
	for i := range 16 {
		sixteen += "\x01" + string(rune('a'+i)) + d[2:]
	}
	full := api.Schema{Measures: []string{"m", "n", "o"}}
	for i := range 16 {
		full.Dims = append(full.Dims, flat(string(rune('a'+i)), "a"))
	}
	return []takeCase{
		{"two dimensions", bytesOfTwo, two(), api.OK},
		{"one of each", "\x01" + d + "\x01\x01m", small, api.OK},
		{"as many as may be", "\x10" + sixteen + "\x03\x01m\x01n\x01o", full, api.OK},
		{"a dimension and a measure of one name", "\x01" + d + "\x01\x01d", api.Schema{Dims: small.Dims, Measures: []string{"d"}}, api.OK},
		{"the longest name of a measure", "\x01" + d + "\x01\x0cabcdefghi_12", api.Schema{Dims: small.Dims, Measures: []string{"abcdefghi_12"}}, api.OK},

		{"nothing", "", api.Schema{}, api.ErrForm},
		{"17 dimensions", "\x11" + sixteen + "\x01p" + d[2:] + "\x01\x01m", api.Schema{}, api.ErrLimit},
		{"17 dimensions, cut off", "\x11", api.Schema{}, api.ErrLimit},
		{"16 dimensions, cut off", "\x10", api.Schema{}, api.ErrForm},
		{"no dimensions", "\x00\x01\x01m", api.Schema{}, api.ErrLimit},
		{"no dimensions, and no measures told", "\x00", api.Schema{}, api.ErrForm},
		{"no dimensions, and a measure that may not be", "\x00\x01\x00", api.Schema{}, api.ErrLimit},
		{"a dimension missing", "\x02" + d, api.Schema{}, api.ErrForm},
		{"a dimension missing, and measures in its stead", "\x02" + d + "\x01\x01m", api.Schema{}, api.ErrLimit},
		{"a dimension with a fault", "\x02" + d + "\x01e\x00", api.Schema{}, api.ErrLimit},
		{"a dimension without a name", "\x01\x00" + d[2:] + "\x01\x01m", api.Schema{}, api.ErrArg},
		{"a dimension's fault ahead of four measures", "\x01\x01D" + d[2:] + "\x04", api.Schema{}, api.ErrArg},
		{"one name twice", "\x02" + d + d + "\x01\x01m", api.Schema{}, api.ErrTwice},
		{"one name twice, far off", "\x03" + d + dd + d + "\x01\x01m", api.Schema{}, api.ErrTwice},
		{"one name twice, and four measures", "\x02" + d + d + "\x04", api.Schema{}, api.ErrLimit},
		{"one name twice, and cut off", "\x02" + d + d, api.Schema{}, api.ErrForm},
		{"one name twice, and no measures", "\x02" + d + d + "\x00", api.Schema{}, api.ErrTwice},
		{"one name twice, and bytes left", "\x02" + d + d + "\x01\x01mx", api.Schema{}, api.ErrTwice},
		{"no measures told", "\x01" + d, api.Schema{}, api.ErrForm},
		{"no measures", "\x01" + d + "\x00", api.Schema{}, api.ErrLimit},
		{"four measures", "\x01" + d + "\x04\x01m\x01n\x01o\x01p", api.Schema{}, api.ErrLimit},
		{"a measure missing", "\x01" + d + "\x02\x01m", api.Schema{}, api.ErrForm},
		{"a measure cut off", "\x01" + d + "\x01\x02m", api.Schema{}, api.ErrForm},
		{"a measure without a name", "\x01" + d + "\x01\x00", api.Schema{}, api.ErrArg},
		{"a measure with a capital letter", "\x01" + d + "\x01\x01M", api.Schema{}, api.ErrArg},
		{"a measure's name too long", "\x01" + d + "\x01\x0dabcdefghijklm", api.Schema{}, api.ErrLimit},
		{"a measure's name too long, cut off", "\x01" + d + "\x01\x0d", api.Schema{}, api.ErrLimit},
		{"a measure twice", "\x01" + d + "\x02\x01m\x01m", api.Schema{}, api.ErrTwice},
		{"bytes left", bytesOfTwo + "x", api.Schema{}, api.ErrForm},
	}
}

func TestP17_2_Take(t *testing.T) {
	for _, c := range takeCases() {
		if s, e := schema.Take(c.b); e != c.e || !same(s, c.s) {
			t.Errorf("%s: Take(%q) = %v, %v, want %v, %v", c.name, c.b, s, e, c.s, c.e)
		}
	}
	for cut := range len(bytesOfTwo) {
		if s, e := schema.Take(bytesOfTwo[:cut]); e != api.ErrForm || !same(s, api.Schema{}) {
			t.Errorf("cut off at %d: Take = %v, %v", cut, s, e)
		}
	}
}

// TestP17_2_Read: Read stands within a reading: ahead of it, and behind it, something else is read.
func TestP17_2_Read(t *testing.T) {
	for _, c := range takeCases() {
		var s api.Schema
		past := false
		e := take.All("x"+c.b+"yz", func(r *take.Reader) {
			r.Byte()
			s = schema.Read(r)
			past = true
			r.Want(r.Left() == 2 && r.Fix(2) == "yz", api.ErrForm)
		})
		if c.e == api.OK && (e != api.OK || !same(s, c.s)) {
			t.Errorf("%s: Read = %v, %v, want %v", c.name, s, e, c.s)
		}
		if c.e != api.OK && c.e != api.ErrForm && (e != c.e || past) {
			t.Errorf("%s: Read: %v, past it: %v, want %v", c.name, e, past, c.e)
		}
	}
}

func TestP17_2_ReadOutside(t *testing.T) {
	var kept *take.Reader
	take.All(bytesOfTwo, func(r *take.Reader) { kept = r })
	for _, r := range []*take.Reader{nil, {}, kept} {
		if s := schema.Read(r); !same(s, api.Schema{}) {
			t.Errorf("Read outside of a reading = %v", s)
		}
	}
}

func TestP17_2_TakeIsNew(t *testing.T) {
	s, _ := schema.Take(bytesOfTwo)
	for i, d := range s.Dims {
		for k, x := range d.Tiers {
			for j := range x.Terms {
				x.Terms[j] = "zz"
			}
			for j := range x.Up {
				x.Up[j] = 77
			}
			d.Tiers[k].Name = "zz"
		}
		s.Dims[i].Name = "zz"
	}
	for i := range s.Measures {
		s.Measures[i] = "zz"
	}
	if again, e := schema.Take(bytesOfTwo); e != api.OK || !same(again, two()) {
		t.Errorf("Take = %v, %v behind a change of an earlier answer", again, e)
	}
}

func TestP17_3_Back(t *testing.T) {
	r := rand.New(rand.NewSource(17))
	l := []api.Schema{two(), wide(16, 3), wide(1, 1)}
	for range 40 {
		s := wide(1+r.Intn(8), 1+r.Intn(3))
		for i := range s.Dims {
			if r.Intn(2) == 0 {
				s.Dims[i] = tall(fmt.Sprintf("e%d", i))
			}
		}
		l = append(l, s)
	}
	for _, s := range l {
		b, e := schema.Put(s)
		if e != api.OK {
			t.Fatalf("Put = %v", e)
		}
		if back, e := schema.Take(b); e != api.OK || !same(back, s) {
			t.Errorf("Take of Put = %v, %v, want %v", back, e, s)
		}
	}
}

// TestP17_3_SameBytes: bytes that are near those of a schema are taken as none, or as one whose bytes they are.
func TestP17_3_SameBytes(t *testing.T) {
	taken := 0
	for i := range len(bytesOfTwo) {
		for b := range 256 {
			near := bytesOfTwo[:i] + string([]byte{byte(b)}) + bytesOfTwo[i+1:]
			s, e := schema.Take(near)
			if e != api.OK {
				if !same(s, api.Schema{}) {
					t.Errorf("Take(%q) = %v beside %v", near, s, e)
				}
				continue
			}
			taken++
			if back, e := schema.Put(s); back != near || e != api.OK {
				t.Errorf("Put of Take(%q) = %q, %v", near, back, e)
			}
		}
	}
	if taken < len(bytesOfTwo) {
		t.Errorf("%d were taken", taken)
	}
}
