package catalog_test

import (
	"fmt"
	"math"
	"math/rand"
	"slices"
	"strings"
	"testing"

	"pithead/api"
	"pithead/catalog"
	"pithead/exact"
	"pithead/schema"
	"pithead/take"
)

const most, least = math.MaxInt64, math.MinInt64

// of is a schema of a dimension of one tier, one of two, and so many measures.
func of(measures int) api.Schema {
	s := api.Schema{Dims: []api.Dim{
		{Name: "d", Tiers: []api.Tier{{Name: "t", Terms: []string{"a", "b"}}}},
		{Name: "e", Tiers: []api.Tier{
			{Name: "low", Terms: []string{"x", "y", "z"}, Up: []int{0, 0, 1}},
			{Name: "top", Terms: []string{"p", "q"}},
		}},
	}}
	for i := range measures {
		s.Measures = append(s.Measures, fmt.Sprintf("m%d", i))
	}
	return s
}

// bytesOf is the bytes of that schema.
func bytesOf(t *testing.T, measures int) string {
	t.Helper()
	b, e := schema.Put(of(measures))
	if e != api.OK {
		t.Fatalf("schema.Put = %v", e)
	}
	return b
}

// with is a catalog of that schema, with so many facts, and totals.
func with(measures, facts int, totals ...api.Total) api.Catalog {
	c := api.Catalog{Schema: of(measures), Facts: facts}
	copy(c.Totals[:], totals)
	return c
}

func cloneSchema(s api.Schema) api.Schema {
	c := api.Schema{Measures: slices.Clone(s.Measures)}
	for _, d := range s.Dims {
		dim := api.Dim{Name: d.Name}
		for _, t := range d.Tiers {
			dim.Tiers = append(dim.Tiers, api.Tier{Name: t.Name, Terms: slices.Clone(t.Terms), Up: slices.Clone(t.Up)})
		}
		c.Dims = append(c.Dims, dim)
	}
	return c
}

func clone(c api.Catalog) api.Catalog {
	return api.Catalog{Schema: cloneSchema(c.Schema), Facts: c.Facts, Totals: c.Totals}
}

func sameTier(a, b api.Tier) bool {
	return a.Name == b.Name && slices.Equal(a.Terms, b.Terms) && slices.Equal(a.Up, b.Up)
}

func sameDim(a, b api.Dim) bool {
	return a.Name == b.Name && slices.EqualFunc(a.Tiers, b.Tiers, sameTier)
}

func sameSchema(a, b api.Schema) bool {
	return slices.EqualFunc(a.Dims, b.Dims, sameDim) && slices.Equal(a.Measures, b.Measures)
}

// same holds all of two catalogs against each other.
func same(a, b api.Catalog) bool {
	return sameSchema(a.Schema, b.Schema) && a.Facts == b.Facts && a.Totals == b.Totals
}

func zero(c api.Catalog) bool { return same(c, api.Catalog{}) }

// spoil changes all lists of a schema, the room behind their ends included.
func spoil(s api.Schema) {
	for _, d := range s.Dims {
		for _, t := range d.Tiers {
			for i := range t.Terms[:cap(t.Terms)] {
				t.Terms[:cap(t.Terms)][i] = "zz"
			}
			for i := range t.Up[:cap(t.Up)] {
				t.Up[:cap(t.Up)][i] = 77
			}
		}
		for i := range d.Tiers[:cap(d.Tiers)] {
			d.Tiers[:cap(d.Tiers)][i] = api.Tier{Name: "zz"}
		}
	}
	for i := range s.Dims[:cap(s.Dims)] {
		s.Dims[:cap(s.Dims)][i] = api.Dim{Name: "zz"}
	}
	for i := range s.Measures[:cap(s.Measures)] {
		s.Measures[:cap(s.Measures)][i] = "zz"
	}
}

// roomy is the same schema, with room behind each of its lists' ends.
func roomy(s api.Schema) api.Schema {
	c := cloneSchema(s)
	c.Dims, c.Measures = slices.Grow(c.Dims, 5), slices.Grow(c.Measures, 5)
	for i, d := range c.Dims {
		c.Dims[i].Tiers = slices.Grow(d.Tiers, 5)
		for k, t := range c.Dims[i].Tiers {
			c.Dims[i].Tiers[k].Terms, c.Dims[i].Tiers[k].Up = slices.Grow(t.Terms, 5), slices.Grow(t.Up, 5)
		}
	}
	return c
}

// faulty are schemas that may not be, and what Check says of them.
func faulty() map[string]struct {
	s api.Schema
	e api.Errno
} {
	order, tree, twice, named := of(1), of(1), of(1), of(1)
	order.Dims[0].Tiers[0].Terms[0] = "z"
	tree.Dims[1].Tiers[0].Up[2] = 0
	twice.Dims[1].Name = "d"
	named.Measures[0] = "M"
	return map[string]struct {
		s api.Schema
		e api.Errno
	}{
		"nothing":                        {api.Schema{}, api.ErrLimit},
		"no measures":                    {of(0), api.ErrLimit},
		"four measures":                  {of(4), api.ErrLimit},
		"members that fall":              {order, api.ErrOrder},
		"no tree":                        {tree, api.ErrTree},
		"one name twice":                 {twice, api.ErrTwice},
		"a measure with no name for one": {named, api.ErrArg},
	}
}

func TestP18_1_New(t *testing.T) {
	for n := 1; n <= 3; n++ {
		s := of(n)
		if c, e := catalog.New(s); e != api.OK || !same(c, with(n, 0)) {
			t.Errorf("New of %d measures = %v, %v", n, c, e)
		}
		if !sameSchema(s, of(n)) {
			t.Error("New has changed its schema")
		}
	}
	for name, f := range faulty() {
		if c, e := catalog.New(f.s); e != f.e || !zero(c) {
			t.Errorf("%s: New = %v, %v, want %v", name, c, e, f.e)
		}
	}
}

// TestP18_1_NewIsNew: a catalog shares nothing with the schema that it was made of, room behind the lists' ends included.
func TestP18_1_NewIsNew(t *testing.T) {
	s := roomy(of(2))
	a, _ := catalog.New(s)
	b, _ := catalog.New(s)
	spoil(a.Schema)
	if !sameSchema(s, of(2)) || !same(b, with(2, 0)) {
		t.Error("what New answers shares something with its schema")
	}
	full := slices.Clone(s.Measures[:cap(s.Measures)])
	if slices.Contains(full, "zz") {
		t.Error("what New answers shares the room behind a list's end")
	}
	spoil(s)
	if !same(b, with(2, 0)) {
		t.Error("what New answers hangs on the schema that it was handed")
	}
}

// checkCase is a catalog, and what Check says.
type checkCase struct {
	name string
	c    api.Catalog
	e    api.Errno
}

func checkCases() []checkCase {
	l := []checkCase{
		{"without facts", with(1, 0), api.OK},
		{"with facts", with(2, 7, api.Total{Pos: 5, Neg: -2}, api.Total{Pos: 1}), api.OK},
		{"totals without facts", with(1, 0, api.Total{Pos: 5, Neg: -2}), api.OK},
		{"4000 facts", with(1, 4000), api.OK},
		{"the greatest totals", with(3, 1, api.Total{Pos: most, Neg: least}, api.Total{Pos: most, Neg: least}, api.Total{Pos: most, Neg: least}), api.OK},

		{"nothing", api.Catalog{}, api.ErrLimit},
		{"4001 facts", with(1, 4001), api.ErrRows},
		{"a great many facts", with(1, math.MaxInt), api.ErrRows},
		{"less than no facts", with(1, -1), api.ErrRows},
		{"far less than no facts", with(1, math.MinInt), api.ErrRows},
		{"4001 facts, and a total that may not be", with(1, 4001, api.Total{Pos: -1}), api.ErrRows},
		{"4001 facts, and a total of no measure", with(1, 4001, api.Total{}, api.Total{Pos: 1}), api.ErrRows},
		{"Pos below 0", with(1, 1, api.Total{Pos: -1}), api.ErrArg},
		{"Neg above 0", with(1, 1, api.Total{Neg: 1}), api.ErrArg},
		{"Pos below, Neg above 0", with(1, 1, api.Total{Pos: least, Neg: most}), api.ErrArg},
		{"the last total may not be", with(3, 1, api.Total{}, api.Total{}, api.Total{Pos: -1}), api.ErrArg},
		{"the total in the midst may not be", with(3, 1, api.Total{}, api.Total{Neg: 1}), api.ErrArg},
		{"Pos of no measure", with(1, 1, api.Total{}, api.Total{Pos: 1}), api.ErrArg},
		{"Neg of no measure", with(1, 1, api.Total{}, api.Total{Neg: -1}), api.ErrArg},
		{"a total of no measure, the last one", with(2, 1, api.Total{}, api.Total{}, api.Total{Pos: 1}), api.ErrArg},
		{"a total of no measure that may not be", with(2, 1, api.Total{}, api.Total{}, api.Total{Pos: -1}), api.ErrArg},
	}
	for name, f := range faulty() {
		l = append(l, checkCase{name, api.Catalog{Schema: f.s}, f.e},
			checkCase{name + ", and 4001 facts", api.Catalog{Schema: f.s, Facts: 4001}, f.e},
			checkCase{name + ", and a total that may not be", api.Catalog{Schema: f.s, Totals: [3]api.Total{{Pos: -1}}}, f.e})
	}
	return l
}

func TestP18_1_Check(t *testing.T) {
	for _, c := range checkCases() {
		before := clone(c.c)
		if e := catalog.Check(c.c); e != c.e {
			t.Errorf("%s: Check = %v, want %v", c.name, e, c.e)
		}
		if !same(before, c.c) {
			t.Errorf("%s: Check has changed its catalog", c.name)
		}
	}
}

func TestP18_1_Grow(t *testing.T) {
	for _, c := range []struct {
		name    string
		c, want api.Catalog
		rows    [][]int64
		e       api.Errno
	}{
		{"no rows", with(2, 7, api.Total{Pos: 5}), with(2, 7, api.Total{Pos: 5}), nil, api.OK},
		{"a row", with(1, 0), with(1, 1, api.Total{Pos: 5}), [][]int64{{5}}, api.OK},
		{"rows of one measure", with(1, 1, api.Total{Pos: 5}), with(1, 4, api.Total{Pos: 9, Neg: -5}), [][]int64{{-2}, {4}, {-3}}, api.OK},
		{"rows of three measures", with(3, 2, api.Total{}, api.Total{Neg: -1}), with(3, 4, api.Total{Pos: 5}, api.Total{Pos: 2, Neg: -4}, api.Total{Neg: -9}), [][]int64{{1, -3, -4}, {4, 2, -5}}, api.OK},
		{"values of 0", with(2, 0), with(2, 2), [][]int64{{0, 0}, {0, 0}}, api.OK},
		{"to 4000", with(1, 3999), with(1, 4000), [][]int64{{0}}, api.OK},
		{"4000 at once", with(1, 0), with(1, 4000, api.Total{Pos: 4000}), slices.Repeat([][]int64{{1}}, 4000), api.OK},
		{"none to 4000", with(1, 4000), with(1, 4000), nil, api.OK},
		{"to the ends", with(2, 1, api.Total{Pos: most - 1, Neg: least + 1}), with(2, 3, api.Total{Pos: most, Neg: least}, api.Total{Pos: most, Neg: least}), [][]int64{{1, most}, {-1, least}}, api.OK},

		{"to 4001", with(1, 4000), api.Catalog{}, [][]int64{{0}}, api.ErrRows},
		{"4001 at once", with(1, 0), api.Catalog{}, slices.Repeat([][]int64{{1}}, 4001), api.ErrRows},
		{"to 4001, by rows that may not be", with(1, 3999), api.Catalog{}, [][]int64{{1, 2}, {3, 4}}, api.ErrRows},
		{"to 4001, by rows that do not fit", with(1, 4000), api.Catalog{}, [][]int64{{most}}, api.ErrRows},
		{"a value too many", with(1, 0), api.Catalog{}, [][]int64{{1, 2}}, api.ErrArg},
		{"a value too few", with(2, 0), api.Catalog{}, [][]int64{{1}}, api.ErrArg},
		{"no values", with(1, 0), api.Catalog{}, [][]int64{{}}, api.ErrArg},
		{"no list of values", with(1, 0), api.Catalog{}, [][]int64{nil}, api.ErrArg},
		{"a great many values", with(3, 0), api.Catalog{}, [][]int64{make([]int64, 1000)}, api.ErrArg},
		{"a value too many, in a later row", with(1, 0), api.Catalog{}, [][]int64{{1}, {2}, {3, 4}}, api.ErrArg},
		{"above the end", with(1, 1, api.Total{Pos: most}), api.Catalog{}, [][]int64{{1}}, api.ErrOver},
		{"below the end", with(1, 1, api.Total{Neg: least}), api.Catalog{}, [][]int64{{-1}}, api.ErrOver},
		{"above the end on the way", with(1, 0), api.Catalog{}, [][]int64{{most}, {-5}, {5}}, api.ErrOver},
		{"above the end, of the last measure", with(3, 0), api.Catalog{}, [][]int64{{1, 1, most}, {1, 1, 1}}, api.ErrOver},
		{"above the end ahead of a value too many", with(1, 0), api.Catalog{}, [][]int64{{most}, {1}, {1, 2}}, api.ErrOver},
		{"a value too many ahead of one above the end", with(1, 0), api.Catalog{}, [][]int64{{most}, {1, 2}, {1}}, api.ErrArg},
		{"a value too many in a row that is above the end", with(1, 1, api.Total{Pos: most}), api.Catalog{}, [][]int64{{1, 2}}, api.ErrArg},
	} {
		before, rows := clone(c.c), make([][]int64, len(c.rows))
		for i, row := range c.rows {
			rows[i] = slices.Clone(row)
		}
		if got, e := catalog.Grow(c.c, rows...); e != c.e || !same(got, c.want) {
			t.Errorf("%s: Grow = %v, %v, want %v, %v", c.name, got, e, c.want, c.e)
		}
		if !same(before, c.c) || !slices.EqualFunc(rows, c.rows, slices.Equal) {
			t.Errorf("%s: Grow has changed what it was handed", c.name)
		}
	}
}

// TestP18_1_GrowCheck: a catalog that may not be does not grow, whatever the rows.
func TestP18_1_GrowCheck(t *testing.T) {
	for _, c := range checkCases() {
		if c.e == api.OK {
			continue
		}
		for _, rows := range [][][]int64{nil, {{1}}, {{1, 2, 3, 4}}, slices.Repeat([][]int64{{1}}, 4001)} {
			if got, e := catalog.Grow(c.c, rows...); e != c.e || !zero(got) {
				t.Errorf("%s: Grow = %v, %v, want %v", c.name, got, e, c.e)
			}
		}
	}
}

func TestP18_1_GrowIsNew(t *testing.T) {
	c := with(2, 1)
	c.Schema = roomy(c.Schema)
	for _, rows := range [][][]int64{nil, {{5, -2}}} {
		got, _ := catalog.Grow(c, rows...)
		again, _ := catalog.Grow(c, rows...)
		want := clone(again)
		spoil(got.Schema)
		if !same(c, with(2, 1)) || !same(again, want) || slices.Contains(c.Schema.Measures[:cap(c.Schema.Measures)], "zz") {
			t.Error("what Grow answers shares something with what it was handed")
		}
		before := clone(c)
		spoil(c.Schema)
		if !same(again, want) {
			t.Error("what Grow answers hangs on the catalog that it was handed")
		}
		c = before
	}
}

func TestP18_2_Put(t *testing.T) {
	for _, c := range []struct {
		name     string
		c        api.Catalog
		measures int
		rest     string
	}{
		{"without facts", with(1, 0), 1, "\x00\x00\x00"},
		{"with a total", with(1, 2, api.Total{Pos: 5, Neg: -2}), 1, "\x02\x0a\x03"},
		{"two measures", with(2, 127, api.Total{Pos: 1}, api.Total{Neg: -1}), 2, "\x7f\x02\x00\x00\x01"},
		{"three measures", with(3, 128, api.Total{Pos: 1, Neg: -1}, api.Total{Pos: 63, Neg: -64}, api.Total{Pos: 64, Neg: -65}), 3, "\x80\x80\x02\x01\x7e\x7f\x80\x80\x80\x81"},
		{"the most", with(1, 4000, api.Total{Pos: most, Neg: least}), 1, "\x8f\xa0\xff\xff\xff\xff\xff\xff\xff\xff\xfe\xff\xff\xff\xff\xff\xff\xff\xff\xff"},
	} {
		if s, e := catalog.Put(c.c); s != bytesOf(t, c.measures)+c.rest || e != api.OK {
			t.Errorf("%s: Put = %q, %v, want %q behind the schema", c.name, s, e, c.rest)
		}
	}
	for _, c := range checkCases() {
		before := clone(c.c)
		s, e := catalog.Put(c.c)
		if e != c.e || (e == api.OK) != (s != "") {
			t.Errorf("%s: Put = %q, %v, want %v", c.name, s, e, c.e)
		}
		if !same(before, c.c) {
			t.Errorf("%s: Put has changed its catalog", c.name)
		}
	}
}

func TestP18_2_Take(t *testing.T) {
	b1, b2, b3 := bytesOf(t, 1), bytesOf(t, 2), bytesOf(t, 3)
	for _, c := range []struct {
		name, s string
		c       api.Catalog
		e       api.Errno
	}{
		{"without facts", b1 + "\x00\x00\x00", with(1, 0), api.OK},
		{"with a total", b1 + "\x02\x0a\x03", with(1, 2, api.Total{Pos: 5, Neg: -2}), api.OK},
		{"two measures", b2 + "\x7f\x02\x00\x00\x01", with(2, 127, api.Total{Pos: 1}, api.Total{Neg: -1}), api.OK},
		{"three measures", b3 + "\x01\x02\x01\x04\x03\x06\x05", with(3, 1, api.Total{Pos: 1, Neg: -1}, api.Total{Pos: 2, Neg: -2}, api.Total{Pos: 3, Neg: -3}), api.OK},
		{"the most", b1 + "\x8f\xa0" + take.PutInt(most) + take.PutInt(least), with(1, 4000, api.Total{Pos: most, Neg: least}), api.OK},

		{"nothing", "", api.Catalog{}, api.ErrForm},
		{"no facts told", b1, api.Catalog{}, api.ErrForm},
		{"4001 facts", b1 + "\x8f\xa1\x00\x00", api.Catalog{}, api.ErrLimit},
		{"4001 facts, cut off", b1 + "\x8f\xa1", api.Catalog{}, api.ErrLimit},
		{"facts of a longer form", b1 + "\x80\x01\x00\x00", api.Catalog{}, api.ErrForm},
		{"no totals", b1 + "\x01", api.Catalog{}, api.ErrForm},
		{"half a total", b1 + "\x01\x00", api.Catalog{}, api.ErrForm},
		{"a total too few", b2 + "\x01\x00\x00", api.Catalog{}, api.ErrForm},
		{"a total too many", b1 + "\x01\x00\x00\x00\x00", api.Catalog{}, api.ErrForm},
		{"a total of a longer form", b1 + "\x01\x80\x00\x00", api.Catalog{}, api.ErrForm},
		{"Pos below 0", b1 + "\x01\x01\x00", api.Catalog{}, api.ErrArg},
		{"Neg above 0", b1 + "\x01\x00\x02", api.Catalog{}, api.ErrArg},
		{"Neg above 0, and bytes left", b1 + "\x01\x00\x02x", api.Catalog{}, api.ErrArg},
		{"the last one's Pos below 0", b3 + "\x01\x00\x00\x00\x00\x01\x00", api.Catalog{}, api.ErrArg},
		{"Pos below 0, and a total missing", b2 + "\x01\x01\x00", api.Catalog{}, api.ErrForm},
		{"a schema that may not be", "\x00\x01\x01m\x00\x00\x00", api.Catalog{}, api.ErrLimit},
		{"a schema with a fault, and 4001 facts", strings.Replace(b1, "\x01e\x02", "\x01d\x02", 1) + "\x8f\xa1", api.Catalog{}, api.ErrTwice},
		{"bytes left", b1 + "\x00\x00\x00x", api.Catalog{}, api.ErrForm},
	} {
		if got, e := catalog.Take(c.s); e != c.e || !same(got, c.c) {
			t.Errorf("%s: Take(%q) = %v, %v, want %v, %v", c.name, c.s, got, e, c.c, c.e)
		}
	}
}

func TestP18_2_TakeIsNew(t *testing.T) {
	c := with(2, 3, api.Total{Pos: 5}, api.Total{Neg: -7})
	s, _ := catalog.Put(c)
	got, _ := catalog.Take(s)
	spoil(got.Schema)
	if again, e := catalog.Take(s); e != api.OK || !same(again, c) {
		t.Errorf("Take = %v, %v behind a change of an earlier answer", again, e)
	}
}

func TestP18_2_Same(t *testing.T) {
	changes := map[string]func(s *api.Schema){
		"a dimension's name":    func(s *api.Schema) { s.Dims[0].Name = "f" },
		"a tier's name":         func(s *api.Schema) { s.Dims[1].Tiers[1].Name = "tip" },
		"a member":              func(s *api.Schema) { s.Dims[0].Tiers[0].Terms[1] = "c" },
		"a member more":         func(s *api.Schema) { s.Dims[0].Tiers[0].Terms = []string{"a", "b", "c"} },
		"where a member stands": func(s *api.Schema) { s.Dims[1].Tiers[0].Up[1] = 1 },
		"a tier less":           func(s *api.Schema) { s.Dims[1].Tiers = s.Dims[1].Tiers[1:] },
		"a dimension less":      func(s *api.Schema) { s.Dims = s.Dims[:1] },
		"the dimensions' order": func(s *api.Schema) { slices.Reverse(s.Dims) },
		"a measure's name":      func(s *api.Schema) { s.Measures[1] = "n" },
		"a measure less":        func(s *api.Schema) { s.Measures = s.Measures[:1] },
		"the measures' order":   func(s *api.Schema) { slices.Reverse(s.Measures) },
	}
	for name, change := range changes {
		a, b := with(2, 0), with(2, 0)
		change(&b.Schema)
		if e := catalog.Check(b); e != api.OK {
			t.Fatalf("%s: Check = %v", name, e)
		}
		if catalog.Same(a, b) || catalog.Same(b, a) || !catalog.Same(b, b) {
			t.Errorf("%s: Same", name)
		}
	}
	a, b := with(2, 0), with(2, 4000, api.Total{Pos: 5}, api.Total{Neg: -2})
	b.Schema.Dims[0].Tiers[0].Up = []int{}
	if !catalog.Same(a, b) || !catalog.Same(b, a) || !catalog.Same(a, a) {
		t.Error("two catalogs of one schema")
	}
	if !same(a, with(2, 0)) || b.Facts != 4000 {
		t.Error("Same has changed its catalogs")
	}
	for name, f := range faulty() {
		bad := api.Catalog{Schema: f.s}
		if catalog.Same(bad, bad) || catalog.Same(bad, a) || catalog.Same(a, bad) {
			t.Errorf("%s: a schema that may not be", name)
		}
	}
}

// values are rows of so many values, of whatever size.
func values(r *rand.Rand, measures, n int) [][]int64 {
	l := make([][]int64, n)
	for i := range l {
		for range measures {
			l[i] = append(l[i], int64(r.Uint64())>>(14+r.Intn(50)))
		}
	}
	return l
}

func TestP18_3_Back(t *testing.T) {
	r := rand.New(rand.NewSource(18))
	for n := range 60 {
		measures := 1 + n%3
		c := with(measures, 0)
		for range 1 + r.Intn(3) {
			var e api.Errno
			if c, e = catalog.Grow(c, values(r, measures, r.Intn(20))...); e != api.OK {
				t.Fatalf("Grow = %v", e)
			}
		}
		s, e := catalog.Put(c)
		if e != api.OK {
			t.Fatalf("Put = %v", e)
		}
		if back, e := catalog.Take(s); e != api.OK || !same(back, c) || !catalog.Same(back, c) {
			t.Errorf("Take of Put = %v, %v, want %v", back, e, c)
		}
		for cut := range len(s) {
			if back, e := catalog.Take(s[:cut]); e != api.ErrForm || !zero(back) {
				t.Fatalf("cut off at %d: Take = %v, %v", cut, back, e)
			}
		}
	}
}

// TestP18_3_SameBytes: bytes that are near those of a catalog are taken as none, or as one whose bytes they are.
func TestP18_3_SameBytes(t *testing.T) {
	s, _ := catalog.Put(with(2, 200, api.Total{Pos: 500, Neg: -2}, api.Total{Neg: -70}))
	taken := 0
	for i := range len(s) {
		for b := range 256 {
			near := s[:i] + string([]byte{byte(b)}) + s[i+1:]
			c, e := catalog.Take(near)
			if e != api.OK {
				if !zero(c) {
					t.Errorf("Take(%q) = %v beside %v", near, c, e)
				}
				continue
			}
			taken++
			if back, e := catalog.Put(c); back != near || e != api.OK {
				t.Errorf("Put of Take(%q) = %q, %v", near, back, e)
			}
		}
	}
	if taken < len(s) {
		t.Errorf("%d were taken", taken)
	}
}

// TestP18_3_Groups: grown by rows, in whichever order and groups, it is the same, and its totals are those of the values.
func TestP18_3_Groups(t *testing.T) {
	r := rand.New(rand.NewSource(183))
	for n := range 30 {
		measures := 1 + n%3
		rows := values(r, measures, r.Intn(60))
		whole, e := catalog.Grow(with(measures, 0), rows...)
		if e != api.OK || whole.Facts != len(rows) {
			t.Fatalf("Grow = %v, %v", whole, e)
		}
		for m := range measures {
			var l []int64
			for _, row := range rows {
				l = append(l, row[m])
			}
			if want, fits := exact.Of(l...); whole.Totals[m] != want || !fits {
				t.Errorf("the total of measure %d = %v, want %v", m, whole.Totals[m], want)
			}
		}
		c := with(measures, 0)
		r.Shuffle(len(rows), func(i, j int) { rows[i], rows[j] = rows[j], rows[i] })
		for left := rows; len(left) > 0; {
			some := 1 + r.Intn(len(left))
			if c, e = catalog.Grow(c, left[:some]...); e != api.OK {
				t.Fatalf("Grow = %v", e)
			}
			left = left[some:]
		}
		if !same(c, whole) {
			t.Errorf("grown in groups it is %v, at once %v", c, whole)
		}
	}
}
