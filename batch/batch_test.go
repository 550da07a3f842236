package batch_test

import (
	"fmt"
	"math"
	"math/rand"
	"slices"
	"strings"
	"testing"

	"pithead/api"
	"pithead/batch"
	"pithead/take"
)

const (
	most, least = math.MaxInt64, math.MinInt64
	sixteen     = "0123456789abcdef"
)

// of is a schema of a dimension of one tier, one of two, and so many measures.
func of(measures int) api.Schema {
	s := api.Schema{Dims: []api.Dim{
		{Name: "d", Tiers: []api.Tier{{Name: "t", Terms: []string{sixteen, "a", "b"}}}},
		{Name: "e", Tiers: []api.Tier{
			{Name: "low", Terms: []string{"x", "y", "z"}, Up: []int{0, 0, 1}},
			{Name: "top", Terms: []string{"p", "q"}},
		}},
	}}
	for i := range measures {
		s.Measures = append(s.Measures, fmt.Sprintf("m%d", i))
	}
	return s
}

// row is a row of two members.
func row(d, e string, values ...int64) api.Row {
	return api.Row{Terms: []string{d, e}, Values: values}
}

// many are so many rows of one measure.
func many(n int) []api.Row {
	var l []api.Row
	for i := range n {
		l = append(l, row("a", []string{"x", "y", "z"}[i%3], int64(i)))
	}
	return l
}

func same(a, b []api.Row) bool {
	return slices.EqualFunc(a, b, func(a, b api.Row) bool {
		return slices.Equal(a.Terms, b.Terms) && slices.Equal(a.Values, b.Values)
	})
}

// bad are schemas that may not be, and what Check says of them.
func bad() map[string]struct {
	s api.Schema
	e api.Errno
} {
	order, tree, twice, named := of(1), of(1), of(1), of(1)
	order.Dims[0].Tiers[0].Terms[0] = "z"
	tree.Dims[1].Tiers[0].Up[2] = 0
	twice.Dims[1].Name = "d"
	named.Measures[0] = "M"
	return map[string]struct {
		s api.Schema
		e api.Errno
	}{
		"nothing":                        {api.Schema{}, api.ErrLimit},
		"no measures":                    {of(0), api.ErrLimit},
		"four measures":                  {of(4), api.ErrLimit},
		"members that fall":              {order, api.ErrOrder},
		"no tree":                        {tree, api.ErrTree},
		"one name twice":                 {twice, api.ErrTwice},
		"a measure with no name for one": {named, api.ErrArg},
	}
}

// checkCase is rows, and what Check says of them.
type checkCase struct {
	name string
	rows []api.Row
	e    api.Errno
}

// checkCases are of a schema of one measure.
func checkCases() []checkCase {
	good := row("a", "x", 1)
	return []checkCase{
		{"none", nil, api.OK},
		{"one", []api.Row{good}, api.OK},
		{"the longest member, the greatest and the least value", []api.Row{row(sixteen, "z", most), row("b", "y", least)}, api.OK},
		{"one row twice", []api.Row{good, good}, api.OK},
		{"300 rows", many(300), api.OK},

		{"301 rows", many(301), api.ErrLimit},
		{"301 rows of nothing", make([]api.Row, 301), api.ErrLimit},
		{"a great many rows", many(5000), api.ErrLimit},
		{"nothing", make([]api.Row, 1), api.ErrArg},
		{"no members", []api.Row{{Values: []int64{1}}}, api.ErrArg},
		{"a member too few", []api.Row{{Terms: []string{"a"}, Values: []int64{1}}}, api.ErrArg},
		{"a member too many", []api.Row{{Terms: []string{"a", "x", "p"}, Values: []int64{1}}}, api.ErrArg},
		{"no value", []api.Row{row("a", "x")}, api.ErrArg},
		{"a value too many", []api.Row{row("a", "x", 1, 2)}, api.ErrArg},
		{"a value too many, and no member", []api.Row{row("nix", "x", 1, 2)}, api.ErrArg},
		{"no member", []api.Row{row("c", "x", 1)}, api.ErrMember},
		{"no member at the end", []api.Row{row("a", "w", 1)}, api.ErrMember},
		{"one of another dimension", []api.Row{row("x", "a", 1)}, api.ErrMember},
		{"one of a coarser tier", []api.Row{row("a", "p", 1)}, api.ErrMember},
		{"an empty one", []api.Row{row("", "x", 1)}, api.ErrMember},
		{"one too long", []api.Row{row(sixteen+"g", "x", 1)}, api.ErrMember},
		{"no member, and then a value too many", []api.Row{good, row("c", "x", 1), row("a", "x", 1, 2)}, api.ErrMember},
		{"a value too many, and then no member", []api.Row{good, row("a", "x", 1, 2), row("c", "x", 1)}, api.ErrArg},
		{"no member in the last of 300", append(many(299), row("c", "x", 1)), api.ErrMember},
		{"no member in the last of 301", append(many(300), row("c", "x", 1)), api.ErrLimit},
	}
}

func TestP20_1_Check(t *testing.T) {
	for _, c := range checkCases() {
		if e := batch.Check(of(1), c.rows...); e != c.e {
			t.Errorf("%s: Check = %v, want %v", c.name, e, c.e)
		}
		if b, e := batch.Put(of(1), c.rows...); e != c.e || (b == "") != (e != api.OK) {
			t.Errorf("%s: Put = %q, %v, want %v", c.name, b, e, c.e)
		}
		if l, e := batch.Facts(of(1), c.rows...); e != c.e || e != api.OK && l != nil || e == api.OK && len(l) != len(c.rows) {
			t.Errorf("%s: Facts = %v, %v, want %v", c.name, l, e, c.e)
		}
	}
	for n := 1; n <= 3; n++ {
		values := []int64{1, 2, 3}
		for k := range 4 {
			want := api.ErrArg
			if k == n {
				want = api.OK
			}
			if e := batch.Check(of(n), row("a", "x", values[:k]...)); e != want {
				t.Errorf("Check of %d values, %d measures = %v", k, n, e)
			}
		}
	}
}

// TestP20_1_Schema: what a schema may not be is told ahead of what is wrong with the rows, or the bytes.
func TestP20_1_Schema(t *testing.T) {
	for name, c := range bad() {
		for _, rows := range [][]api.Row{nil, many(1), many(301), {row("nix", "x")}} {
			if e := batch.Check(c.s, rows...); e != c.e {
				t.Errorf("%s: Check = %v, want %v", name, e, c.e)
			}
			if b, e := batch.Put(c.s, rows...); b != "" || e != c.e {
				t.Errorf("%s: Put = %q, %v, want %v", name, b, e, c.e)
			}
			if l, e := batch.Facts(c.s, rows...); l != nil || e != c.e {
				t.Errorf("%s: Facts = %v, %v, want %v", name, l, e, c.e)
			}
		}
		for _, b := range []string{"", "\x00", "\x01\x01a\x01x\x02", "\xff", "\x81\x2d"} {
			if l, e := batch.Take(c.s, b); l != nil || e != c.e {
				t.Errorf("%s: Take(%q) = %v, %v, want %v", name, b, l, e, c.e)
			}
		}
	}
}

func TestP20_1_Put(t *testing.T) {
	for _, c := range []struct {
		name     string
		measures int
		rows     []api.Row
		b        string
	}{
		{"none", 1, nil, "\x00"},
		{"none, an empty list", 3, []api.Row{}, "\x00"},
		{"one", 1, []api.Row{row("a", "y", 3)}, "\x01\x01a\x01y\x06"},
		{"two, in their order", 1, []api.Row{row("b", "y", -1), row("a", "x", 0)}, "\x02\x01b\x01y\x01\x01a\x01x\x00"},
		{"one twice", 1, []api.Row{row("b", "y", 1), row("b", "y", 1)}, "\x02\x01b\x01y\x02\x01b\x01y\x02"},
		{"three measures", 3, []api.Row{row("a", "z", 64, -64, -65)}, "\x01\x01a\x01z\x80\x80\x7f\x80\x81"},
		{"the longest member, the greatest value", 1, []api.Row{row(sixteen, "x", most)}, "\x01\x10" + sixteen + "\x01x\xff\xff\xff\xff\xff\xff\xff\xff\xfe"},
		{"the least value", 1, []api.Row{row("a", "x", least)}, "\x01\x01a\x01x\xff\xff\xff\xff\xff\xff\xff\xff\xff"},
	} {
		if b, e := batch.Put(of(c.measures), c.rows...); b != c.b || e != api.OK {
			t.Errorf("%s: Put = %q, %v, want %q", c.name, b, e, c.b)
		}
		if l, e := batch.Take(of(c.measures), c.b); !same(l, c.rows) || e != api.OK {
			t.Errorf("%s: Take = %v, %v", c.name, l, e)
		}
	}
	if b, e := batch.Put(of(1), many(300)...); e != api.OK || !strings.HasPrefix(b, "\x81\x2c\x01a\x01x\x00\x01a\x01y\x02") {
		t.Errorf("Put of 300 rows = %.20q, %v", b, e)
	}
}

// forms are bytes, and what Take says of them, by a schema of one measure.
func forms() []struct {
	name, b string
	e       api.Errno
} {
	return []struct {
		name, b string
		e       api.Errno
	}{
		{"no bytes", "", api.ErrForm},
		{"a number cut short", "\x80", api.ErrForm},
		{"a number longer than it needs", "\x80\x00", api.ErrForm},
		{"301 rows", "\x81\x2d", api.ErrLimit},
		{"a great many rows", "\xff\xff\xff\xff\xff\xff\xff\xff\xff", api.ErrLimit},
		{"300 rows, and none", "\x81\x2c", api.ErrForm},
		{"a row that is not there", "\x01", api.ErrForm},
		{"a member cut short", "\x01\x02a", api.ErrForm},
		{"a row without its second member", "\x01\x01a", api.ErrForm},
		{"a row without its value", "\x01\x01a\x01x", api.ErrForm},
		{"a value cut short", "\x01\x01a\x01x\x80", api.ErrForm},
		{"a value longer than it needs", "\x01\x01a\x01x\x80\x02", api.ErrForm},
		{"a second row that is not there", "\x02\x01a\x01x\x02", api.ErrForm},
		{"bytes left", "\x01\x01a\x01x\x02\x00", api.ErrForm},
		{"bytes left behind no rows", "\x00\x00", api.ErrForm},
		{"an empty member", "\x01\x00\x01x\x02", api.ErrForm},
		{"an empty second member", "\x01\x01a\x00\x02", api.ErrForm},
		{"a member too long", "\x01\x11" + sixteen + "g\x01x\x02", api.ErrLimit},
		{"a member too long, and cut short", "\x01\x11a", api.ErrLimit},
		{"an empty member, and then one too long", "\x01\x00\x11", api.ErrForm},
		{"a member too long, and then an empty one", "\x01\x11" + sixteen + "g\x00\x02", api.ErrLimit},
		{"a member that is none", "\x01\x01a\x01c\x02", api.ErrMember},
		{"a member of a coarser tier", "\x01\x01a\x01p\x02", api.ErrMember},
		{"the longest text, which is none", "\x01\x10" + sixteen[1:] + "g\x01x\x02", api.ErrMember},
		{"a member that is none, and bytes left", "\x01\x01a\x01c\x02\x00", api.ErrForm},
		{"a member that is none, and then an empty one", "\x02\x01a\x01c\x02\x00\x01x\x02", api.ErrForm},
		{"a member that is none, and then one too long", "\x02\x01a\x01c\x02\x11", api.ErrLimit},
		{"a member that is none, and no value", "\x01\x01c\x01x", api.ErrForm},
		{"a value of a second measure", "\x01\x01a\x01x\x02\x02", api.ErrForm},
	}
}

func TestP20_1_Take(t *testing.T) {
	for _, c := range forms() {
		if l, e := batch.Take(of(1), c.b); l != nil || e != c.e {
			t.Errorf("%s: Take = %v, %v, want %v", c.name, l, e, c.e)
		}
	}
	// By other schemas the same bytes are read otherwise.
	b := "\x01\x01a\x01x\x02\x04"
	if l, e := batch.Take(of(2), b); e != api.OK || !same(l, []api.Row{row("a", "x", 1, 2)}) {
		t.Errorf("Take of two measures = %v, %v", l, e)
	}
	if l, e := batch.Take(of(3), b); e != api.ErrForm || l != nil {
		t.Errorf("Take of three measures = %v, %v", l, e)
	}
}

// TestP20_1_TakeCut: of a batch's bytes no piece ahead of their end, and nothing longer, is a batch.
func TestP20_1_TakeCut(t *testing.T) {
	b, _ := batch.Put(of(2), row("a", "x", 1, -1), row(sixteen, "z", most, least), row("b", "y", 200, 0))
	for i := range len(b) {
		if l, e := batch.Take(of(2), b[:i]); l != nil || e != api.ErrForm {
			t.Errorf("Take of %d bytes = %v, %v", i, l, e)
		}
	}
	if l, e := batch.Take(of(2), b+"\x00"); l != nil || e != api.ErrForm {
		t.Errorf("Take of a byte more = %v, %v", l, e)
	}
}

// TestP20_1_TakeAny: of whatever bytes Take ends, and what it takes is what is put as these bytes.
func TestP20_1_TakeAny(t *testing.T) {
	r := rand.New(rand.NewSource(20))
	good, _ := batch.Put(of(1), row("a", "x", 1), row("b", "z", -70))
	taken := 0
	for range 20000 {
		b := []byte(good)
		for range 1 + r.Intn(3) {
			b[r.Intn(len(b))] = byte(r.Intn(256))
		}
		l, e := batch.Take(of(1), string(b))
		if e != api.OK {
			if l != nil {
				t.Fatalf("Take(%q) = %v, %v", b, l, e)
			}
			continue
		}
		taken++
		if again, e := batch.Put(of(1), l...); again != string(b) || e != api.OK {
			t.Fatalf("Take(%q) is put as %q, %v", b, again, e)
		}
	}
	if taken == 0 {
		t.Error("nothing was taken")
	}
}

func TestP20_2_Facts(t *testing.T) {
	l, e := batch.Facts(of(3), row("b", "x", 3, -4, most), row("a", "z", 0, 5, least), row("b", "x", 3, -4, most), row(sixteen, "y", 1, 1, 1))
	keys := [][]int{{2, 0}, {1, 2}, {2, 0}, {0, 1}}
	values := [][3]int64{{3, -4, most}, {0, 5, least}, {3, -4, most}, {1, 1, 1}}
	if e != api.OK || len(l) != len(keys) {
		t.Fatalf("Facts = %v, %v", l, e)
	}
	for i, f := range l {
		want := api.Agg{Count: 1}
		for k, v := range values[i] {
			want.M[k] = api.Part{Sum: v, Min: v, Max: v}
		}
		if !slices.Equal(f.Keys, keys[i]) || f.Agg != want {
			t.Errorf("fact %d = %v", i, f)
		}
	}
	if l, e := batch.Facts(of(1), row("a", "x", 7)); e != api.OK || l[0].Agg != (api.Agg{Count: 1, M: [3]api.Part{{Sum: 7, Min: 7, Max: 7}}}) {
		t.Errorf("Facts of one measure = %v, %v", l, e)
	}
	if l, e := batch.Facts(of(1)); len(l) != 0 || e != api.OK {
		t.Errorf("Facts of no rows = %v, %v", l, e)
	}
}

func TestP20_2_Values(t *testing.T) {
	for _, rows := range [][]api.Row{nil, {}} {
		if l := batch.Values(rows...); len(l) != 0 {
			t.Errorf("Values of none = %v", l)
		}
	}
	// No schema is asked: each row's values are answered, however many there are.
	l := batch.Values(row("a", "x", 3, 4), api.Row{}, row("nix", "", 5), api.Row{Values: []int64{1, 2, 3, 4, 5}})
	want := [][]int64{{3, 4}, {}, {5}, {1, 2, 3, 4, 5}}
	if !slices.EqualFunc(l, want, func(a, b []int64) bool { return slices.Equal(a, b) }) {
		t.Errorf("Values = %v", l)
	}
}

// TestP20_3_BackFromPut: what is put is taken as it was.
func TestP20_3_BackFromPut(t *testing.T) {
	r := rand.New(rand.NewSource(203))
	for n := 1; n <= 3; n++ {
		for _, size := range []int{0, 1, 2, 3, 10, 127, 128, 299, 300} {
			var rows []api.Row
			for range size {
				var values []int64
				for range n {
					values = append(values, int64(r.Uint64())>>r.Intn(64))
				}
				rows = append(rows, row([]string{sixteen, "a", "b"}[r.Intn(3)], []string{"x", "y", "z"}[r.Intn(3)], values...))
			}
			b, e := batch.Put(of(n), rows...)
			if e != api.OK {
				t.Fatalf("Put = %v", e)
			}
			if l, e := batch.Take(of(n), b); e != api.OK || !same(l, rows) {
				t.Errorf("%d rows of %d measures come back as %v, %v", size, n, l, e)
			}
		}
	}
}

// TestP20_1_Wide: a schema may have 16 dimensions, and members of any bytes.
func TestP20_1_Wide(t *testing.T) {
	s := api.Schema{Measures: []string{"m"}}
	want := api.Row{Values: []int64{1}}
	b := "\x01"
	for i := range 16 {
		s.Dims = append(s.Dims, api.Dim{Name: fmt.Sprintf("d%d", i), Tiers: []api.Tier{{Name: "t", Terms: []string{"\x00", "a b", "\xff\xfe"}}}})
		term := s.Dims[i].Tiers[0].Terms[i%3]
		want.Terms = append(want.Terms, term)
		b += take.PutText(term)
	}
	if l, e := batch.Take(s, b+"\x02"); e != api.OK || !same(l, []api.Row{want}) {
		t.Errorf("Take = %v, %v", l, e)
	}
	if l, e := batch.Facts(s, want); e != api.OK || !slices.Equal(l[0].Keys, []int{0, 1, 2, 0, 1, 2, 0, 1, 2, 0, 1, 2, 0, 1, 2, 0}) {
		t.Errorf("Facts = %v, %v", l, e)
	}
}

// fill lays a thing all over a list, the room behind its end included.
func fill[T any](l []T, with T) {
	for i := range l[:cap(l)] {
		l[:cap(l)][i] = with
	}
}

// TestP20_1_TakeIsNew: no two lists of what Take answers share anything.
func TestP20_1_TakeIsNew(t *testing.T) {
	b, _ := batch.Put(of(1), many(5)...)
	for i := range 5 {
		s := of(1)
		l, _ := batch.Take(s, b)
		other, _ := batch.Take(s, b)
		fill(l[i].Terms, "zz")
		fill(l[i].Values, 77)
		l[i] = many(5)[i]
		if !same(l, many(5)) || !same(other, many(5)) || batch.Check(s, many(5)...) != api.OK {
			t.Errorf("row %d of what Take answers shares something", i)
		}
	}
}

func TestP20_2_FactsAreNew(t *testing.T) {
	s, rows := of(1), many(5)
	l, _ := batch.Facts(s, rows...)
	for i := range l {
		fill(l[i].Keys, 77)
		for k := i + 1; k < len(l); k++ {
			if !slices.Equal(l[k].Keys, []int{1, k % 3}) {
				t.Errorf("facts %d and %d share something", i, k)
			}
		}
	}
	fill(l, api.Fact{})
	if !same(rows, many(5)) || batch.Check(s, rows...) != api.OK {
		t.Error("what Facts answers shares something with its arguments")
	}
}

func TestP20_2_ValuesAreNew(t *testing.T) {
	back := []int64{1, 2, 55, 55}
	rows := []api.Row{{Values: back[:2]}, {Values: back[:1]}, {Values: back[1:2]}}
	for i := range rows {
		l := batch.Values(rows...)
		fill(l[i], 77)
		l[i] = rows[i].Values
		if !slices.Equal(l[0], []int64{1, 2}) || !slices.Equal(l[1], []int64{1}) || !slices.Equal(l[2], []int64{2}) {
			t.Errorf("list %d of what Values answers shares something", i)
		}
	}
	if !slices.Equal(back, []int64{1, 2, 55, 55}) {
		t.Error("Values has changed its rows")
	}
}

// TestP20_1_Untouched: rows and schema are as they were, whatever is asked.
func TestP20_1_Untouched(t *testing.T) {
	for _, c := range checkCases() {
		rows := slices.Clone(c.rows)
		for i, r := range rows {
			rows[i] = api.Row{Terms: slices.Clone(r.Terms), Values: slices.Clone(r.Values)}
		}
		s := of(1)
		batch.Check(s, rows...)
		batch.Put(s, rows...)
		batch.Facts(s, rows...)
		batch.Values(rows...)
		if !same(rows, c.rows) || batch.Check(s, many(3)...) != api.OK {
			t.Errorf("%s: the arguments were changed", c.name)
		}
	}
}
