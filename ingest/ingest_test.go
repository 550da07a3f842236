package ingest_test

import (
	"fmt"
	"math"
	"math/rand"
	"slices"
	"testing"

	"pithead/api"
	"pithead/batch"
	"pithead/fact"
	"pithead/ingest"
	"pithead/run"
)

const most, least = math.MaxInt64, math.MinInt64

// one is the fact of a row of one measure.
func one(v int64, keys ...int) api.Fact { return with(1, api.Part{Sum: v, Min: v, Max: v}, keys...) }

// with is a fact whose aggregate is made by hand.
func with(count int64, p api.Part, keys ...int) api.Fact {
	return api.Fact{Keys: keys, Agg: api.Agg{Count: count, M: [api.MaxMeasures]api.Part{p}}}
}

// part is a part of a sum, a least, a greatest value.
func part(sum, lo, hi int64) api.Part { return api.Part{Sum: sum, Min: lo, Max: hi} }

// of is a schema of two dimensions, and so many measures.
func of(measures int) api.Schema {
	s := api.Schema{Dims: []api.Dim{
		{Name: "d", Tiers: []api.Tier{{Name: "t", Terms: []string{"a", "b", "c"}}}},
		{Name: "e", Tiers: []api.Tier{
			{Name: "low", Terms: []string{"x", "y", "z"}, Up: []int{0, 0, 1}},
			{Name: "top", Terms: []string{"p", "q"}},
		}},
	}}
	for i := range measures {
		s.Measures = append(s.Measures, fmt.Sprintf("m%d", i))
	}
	return s
}

// row is a row of two members.
func row(d, e string, values ...int64) api.Row {
	return api.Row{Terms: []string{d, e}, Values: values}
}

// foldCase is facts, and what becomes of them.
type foldCase struct {
	name string
	l    []api.Fact
	want []api.Fact
	e    api.Errno
}

// sortedCases are of facts that are sorted: Fold and Any do the same to them.
func sortedCases() []foldCase {
	return []foldCase{
		{"none", nil, nil, api.OK},
		{"one", []api.Fact{one(5, 1)}, []api.Fact{one(5, 1)}, api.OK},
		{"no two of one tuple", []api.Fact{one(5, 0), one(4, 0, 0), one(3, 1)}, []api.Fact{one(5, 0), one(4, 0, 0), one(3, 1)}, api.OK},
		{"two of one tuple", []api.Fact{one(3, 1, 2), one(4, 1, 2)}, []api.Fact{with(2, part(7, 3, 4), 1, 2)}, api.OK},
		{"a fact twice", []api.Fact{one(3, 1), one(3, 1)}, []api.Fact{with(2, part(6, 3, 3), 1)}, api.OK},
		{"some of one tuple at the beginning", []api.Fact{one(3, 0), one(-4, 0), one(5, 0), one(6, 1)}, []api.Fact{with(3, part(4, -4, 5), 0), one(6, 1)}, api.OK},
		{"some of one tuple at the end", []api.Fact{one(6, 0), one(3, 1), one(4, 1)}, []api.Fact{one(6, 0), with(2, part(7, 3, 4), 1)}, api.OK},
		{"some of one tuple within", []api.Fact{one(6, 0), one(3, 1), one(4, 1), one(7, 2)}, []api.Fact{one(6, 0), with(2, part(7, 3, 4), 1), one(7, 2)}, api.OK},
		{"of some rows", []api.Fact{with(3, part(9, 1, 5), 0), with(2, part(-5, -4, -1), 0)}, []api.Fact{with(5, part(4, -4, 5), 0)}, api.OK},
		{"of no places", []api.Fact{one(1), one(2), one(3)}, []api.Fact{with(3, part(6, 1, 3))}, api.OK},
		{"of no places, and of one", []api.Fact{one(1), one(2, 0)}, []api.Fact{one(1), one(2, 0)}, api.OK},
		{"of no rows", []api.Fact{with(0, part(9, 9, 9), 0), one(2, 0)}, []api.Fact{one(2, 0)}, api.OK},
		{"of no rows, alone", []api.Fact{with(0, part(9, 9, 9), 0)}, []api.Fact{with(0, part(9, 9, 9), 0)}, api.OK},
		{"a sum that just fits", []api.Fact{one(most-1, 0), one(1, 0)}, []api.Fact{with(2, part(most, 1, most-1), 0)}, api.OK},
		{"the least sum", []api.Fact{one(least+1, 0), one(-1, 0)}, []api.Fact{with(2, part(least, least+1, -1), 0)}, api.OK},
		{"great sums of unlike tuples", []api.Fact{one(most, 0), one(most, 1)}, []api.Fact{one(most, 0), one(most, 1)}, api.OK},
		{"a sum that fits on the way", []api.Fact{one(most, 0), one(-1, 0), one(1, 0)}, []api.Fact{with(3, part(most, -1, most), 0)}, api.OK},

		{"a sum too great", []api.Fact{one(most, 0), one(1, 0)}, nil, api.ErrOver},
		{"a sum too small", []api.Fact{one(-1, 0), one(least, 0)}, nil, api.ErrOver},
		{"a sum too great on the way", []api.Fact{one(most, 0), one(1, 0), one(-1, 0)}, nil, api.ErrOver},
		{"a sum too great behind others", []api.Fact{one(1, 0), one(2, 0), one(most, 1), one(1, 1), one(3, 2)}, nil, api.ErrOver},
		{"too many rows", []api.Fact{with(most, part(0, 0, 0), 0), one(0, 0)}, nil, api.ErrOver},
	}
}

func TestP23_1_Fold(t *testing.T) {
	for _, c := range append(sortedCases(), []foldCase{
		{"of one tuple, with others between", []api.Fact{one(1, 0), one(2, 1), one(3, 0)}, []api.Fact{one(1, 0), one(2, 1), one(3, 0)}, api.OK},
		{"falling, in their order", []api.Fact{one(1, 2), one(2, 2), one(3, 1), one(4, 0), one(5, 0)}, []api.Fact{with(2, part(3, 1, 2), 2), one(3, 1), with(2, part(9, 4, 5), 0)}, api.OK},
		{"great sums of one tuple, with others between", []api.Fact{one(most, 0), one(2, 1), one(most, 0)}, []api.Fact{one(most, 0), one(2, 1), one(most, 0)}, api.OK},
	}...) {
		if l, e := ingest.Fold(c.l...); !fact.Same(l, c.want) || e != c.e || e != api.OK && l != nil {
			t.Errorf("%s: Fold = %v, %v, want %v, %v", c.name, l, e, c.want, c.e)
		}
	}
}

func TestP23_1_Any(t *testing.T) {
	for _, c := range append(sortedCases(), []foldCase{
		{"of one tuple, with others between", []api.Fact{one(1, 0), one(2, 1), one(3, 0)}, []api.Fact{with(2, part(4, 1, 3), 0), one(2, 1)}, api.OK},
		{"falling", []api.Fact{one(1, 2), one(2, 1), one(4, 0), one(3, 0)}, []api.Fact{with(2, part(7, 3, 4), 0), one(2, 1), one(1, 2)}, api.OK},
		{"beginnings behind", []api.Fact{one(1, 0, 0), one(2, 0), one(3)}, []api.Fact{one(3), one(2, 0), one(1, 0, 0)}, api.OK},
		{"a sum too great, with others between", []api.Fact{one(most, 0), one(2, 1), one(1, 0)}, nil, api.ErrOver},
		{"a sum too great on the way, as they came", []api.Fact{one(most, 1), one(2, 0), one(1, 1), one(0, 2), one(-1, 1)}, nil, api.ErrOver},
		{"a sum that fits as they came", []api.Fact{one(most, 1), one(2, 0), one(-1, 1), one(0, 2), one(1, 1)}, []api.Fact{one(2, 0), with(3, part(most, -1, most), 1), one(0, 2)}, api.OK},
	}...) {
		if l, e := ingest.Any(c.l...); !fact.Same(l, c.want) || e != c.e || e != api.OK && l != nil {
			t.Errorf("%s: Any = %v, %v, want %v, %v", c.name, l, e, c.want, c.e)
		}
	}
}

// many are so many facts of few tuples; their values are small.
func many(r *rand.Rand, n int) []api.Fact {
	var l []api.Fact
	for range n {
		l = append(l, one(int64(r.Intn(200)-100), r.Intn(4), r.Intn(3), r.Intn(2)))
	}
	return l
}

// slow is facts, each tuple once, told one by one: the places of the others are looked through each time.
func slow(l []api.Fact) []api.Fact {
	var all []api.Fact
	for _, f := range l {
		at := slices.IndexFunc(all, func(g api.Fact) bool { return slices.Equal(f.Keys, g.Keys) })
		if at < 0 {
			all = append(all, fact.Clone([]api.Fact{f})...)
			continue
		}
		a := &all[at].Agg
		a.Count += f.Agg.Count
		a.M[0].Sum += f.Agg.M[0].Sum
		a.M[0].Min = min(a.M[0].Min, f.Agg.M[0].Min)
		a.M[0].Max = max(a.M[0].Max, f.Agg.M[0].Max)
	}
	return run.Sort(all)
}

// TestP23_1_AnyOfMany: also of more facts than one run has, and one pass takes, each tuple comes once.
func TestP23_1_AnyOfMany(t *testing.T) {
	r := rand.New(rand.NewSource(23))
	for _, n := range []int{1, 31, 32, 33, 128, 129, 600, 4000} {
		l := many(r, n)
		if got, e := ingest.Any(l...); e != api.OK || !fact.Same(got, slow(l)) {
			t.Errorf("Any of %d = %v, %v", n, got, e)
		}
		sorted := run.Sort(l)
		if got, e := ingest.Fold(sorted...); e != api.OK || !fact.Same(got, slow(l)) {
			t.Errorf("Fold of %d = %v, %v", n, got, e)
		}
	}
}

func TestP23_1_Rows(t *testing.T) {
	for _, c := range []struct {
		name     string
		measures int
		rows     []api.Row
		want     []api.Fact
		e        api.Errno
	}{
		{"none", 1, nil, nil, api.OK},
		{"one", 1, []api.Row{row("b", "z", 5)}, []api.Fact{one(5, 1, 2)}, api.OK},
		{"two of one tuple", 1, []api.Row{row("b", "z", 3), row("b", "z", 4)}, []api.Fact{with(2, part(7, 3, 4), 1, 2)}, api.OK},
		{"in whatever order", 1, []api.Row{row("b", "x", 3), row("a", "x", 4), row("b", "x", -1)}, []api.Fact{one(4, 0, 0), with(2, part(2, -1, 3), 1, 0)}, api.OK},
		{"three measures", 3, []api.Row{row("c", "y", 1, 2, 3), row("c", "y", 4, -5, 3)}, []api.Fact{{Keys: []int{2, 1}, Agg: api.Agg{Count: 2, M: [3]api.Part{part(5, 1, 4), part(-3, -5, 2), part(6, 3, 3)}}}}, api.OK},
		{"great values of unlike tuples", 1, []api.Row{row("a", "x", most), row("a", "y", most)}, []api.Fact{one(most, 0, 0), one(most, 0, 1)}, api.OK},

		{"a sum too great", 1, []api.Row{row("a", "x", most), row("b", "x", 0), row("a", "x", 1)}, nil, api.ErrOver},
		{"a sum too small", 1, []api.Row{row("a", "x", least), row("a", "x", -1)}, nil, api.ErrOver},
		{"a sum too great of the last measure", 3, []api.Row{row("a", "x", 0, 0, most), row("a", "x", 0, 0, 1)}, nil, api.ErrOver},
		{"no member", 1, []api.Row{row("a", "p", 1)}, nil, api.ErrMember},
		{"no value", 1, []api.Row{row("a", "x")}, nil, api.ErrArg},
		{"no member, and a sum too great", 1, []api.Row{row("a", "x", most), row("a", "x", 1), row("d", "x", 1)}, nil, api.ErrMember},
		{"no schema", 0, []api.Row{row("a", "x", 1)}, nil, api.ErrLimit},
		{"no schema, and no rows", 4, nil, nil, api.ErrLimit},
		{"301 rows", 1, make([]api.Row, 301), nil, api.ErrLimit},
	} {
		if l, e := ingest.Rows(of(c.measures), c.rows...); !fact.Same(l, c.want) || e != c.e || e != api.OK && l != nil {
			t.Errorf("%s: Rows = %v, %v, want %v, %v", c.name, l, e, c.want, c.e)
		}
	}
}

func TestP23_1_Join(t *testing.T) {
	for _, c := range []struct {
		name       string
		a, b, want []api.Fact
		e          api.Errno
	}{
		{"none", nil, nil, nil, api.OK},
		{"none, empty lists", []api.Fact{}, []api.Fact{}, nil, api.OK},
		{"the first alone", []api.Fact{one(1, 0), one(2, 1)}, nil, []api.Fact{one(1, 0), one(2, 1)}, api.OK},
		{"the second alone", nil, []api.Fact{one(1, 0), one(2, 1)}, []api.Fact{one(1, 0), one(2, 1)}, api.OK},
		{"unlike tuples", []api.Fact{one(1, 0), one(2, 2)}, []api.Fact{one(3, 1), one(4, 3)}, []api.Fact{one(1, 0), one(3, 1), one(2, 2), one(4, 3)}, api.OK},
		{"some of one tuple", []api.Fact{one(1, 0), one(2, 2)}, []api.Fact{one(3, 0), one(4, 3)}, []api.Fact{with(2, part(4, 1, 3), 0), one(2, 2), one(4, 3)}, api.OK},
		{"a tuple twice in one of both", []api.Fact{one(1, 0), one(2, 0)}, []api.Fact{one(3, 1)}, []api.Fact{with(2, part(3, 1, 2), 0), one(3, 1)}, api.OK},
		{"a tuple often in both", []api.Fact{one(1, 0), one(2, 0)}, []api.Fact{one(3, 0), one(4, 0)}, []api.Fact{with(4, part(10, 1, 4), 0)}, api.OK},
		{"a sum too great", []api.Fact{one(most, 0)}, []api.Fact{one(1, 0)}, nil, api.ErrOver},
		{"a sum too great in the second", nil, []api.Fact{one(most, 0), one(1, 0)}, nil, api.ErrOver},
		{"a sum too great on the way, the first one's ahead", []api.Fact{one(most, 0)}, []api.Fact{one(1, 0), one(-1, 0)}, nil, api.ErrOver},
		{"a sum that fits, the first one's ahead", []api.Fact{one(1, 0), one(-1, 0)}, []api.Fact{one(most, 0)}, []api.Fact{with(3, part(most, -1, most), 0)}, api.OK},
	} {
		if l, e := ingest.Join(c.a, c.b); !fact.Same(l, c.want) || e != c.e || e != api.OK && l != nil {
			t.Errorf("%s: Join = %v, %v, want %v, %v", c.name, l, e, c.want, c.e)
		}
	}
}

// TestP23_1_JoinUnsorted: of rows that are not sorted nothing is said but that the call ends.
func TestP23_1_JoinUnsorted(t *testing.T) {
	r := rand.New(rand.NewSource(231))
	for range 100 {
		a, b := many(r, r.Intn(20)), many(r, r.Intn(20))
		keptA, keptB := fact.Clone(a), fact.Clone(b)
		ingest.Join(a, b)
		if !fact.Same(a, keptA) || !fact.Same(b, keptB) {
			t.Fatal("Join has changed its rows")
		}
	}
}

func TestP23_2_Suffix(t *testing.T) {
	l := []api.Fact{one(1, 0, 1), one(2, 0, 2), one(4, 1, 0), one(8, 1, 1)}
	for _, c := range []struct {
		name string
		n    int
		l    []api.Fact
		want []api.Fact
		e    api.Errno
	}{
		{"none less", 0, l, l, api.OK},
		{"one less", 1, l, []api.Fact{one(4, 0), with(2, part(9, 1, 8), 1), one(2, 2)}, api.OK},
		{"all less", 2, l, []api.Fact{with(4, part(15, 1, 8))}, api.OK},
		{"one more than there are", 3, l, nil, api.ErrArg},
		{"far more than there are", math.MaxInt, l, nil, api.ErrArg},
		{"less than none", -1, l, nil, api.ErrArg},
		{"far less than none", math.MinInt, l, nil, api.ErrArg},
		{"no facts", 0, nil, nil, api.OK},
		{"no facts, one less", 1, nil, nil, api.OK},
		{"no facts, less than none", -1, nil, nil, api.OK},
		{"no facts, far less than none", math.MinInt, []api.Fact{}, nil, api.OK},
		{"no facts, far more", math.MaxInt, nil, nil, api.OK},
		{"of no places", 0, []api.Fact{one(1), one(2)}, []api.Fact{with(2, part(3, 1, 2))}, api.OK},
		{"of no places, one less", 1, []api.Fact{one(1)}, nil, api.ErrArg},
		{"of no places, less than none", -1, []api.Fact{one(1)}, nil, api.ErrArg},
		{"none less, any order, a tuple twice", 0, []api.Fact{one(1, 1), one(2, 0), one(3, 1)}, []api.Fact{one(2, 0), with(2, part(4, 1, 3), 1)}, api.OK},
		{"unlike lengths", 1, []api.Fact{one(1, 5, 1, 2), one(2, 6), one(3, 7, 1)}, []api.Fact{one(2), one(3, 1), one(1, 1, 2)}, api.OK},
		{"one too short at the end", 2, []api.Fact{one(1, 5, 1, 2), one(2, 6, 0), one(3, 7)}, nil, api.ErrArg},
		{"one too short at the beginning", 2, []api.Fact{one(3, 7), one(1, 5, 1, 2)}, nil, api.ErrArg},
		{"a sum too great", 1, []api.Fact{one(most, 0, 3), one(1, 1, 3)}, nil, api.ErrOver},
		{"a sum too great, in an order of its own", 1, []api.Fact{one(1, 0, 3), one(0, 0, 4), one(-1, 1, 3), one(most, 2, 3)}, []api.Fact{with(3, part(most, -1, most), 3), one(0, 4)}, api.OK},
		{"a sum too great, and one too short", 1, []api.Fact{one(most, 0, 3), one(1, 1, 3), one(1)}, nil, api.ErrArg},
	} {
		if got, e := ingest.Suffix(c.n, c.l...); !fact.Same(got, c.want) || e != c.e || e != api.OK && got != nil {
			t.Errorf("%s: Suffix = %v, %v, want %v, %v", c.name, got, e, c.want, c.e)
		}
	}
}

func TestP23_2_SuffixOfMany(t *testing.T) {
	r := rand.New(rand.NewSource(232))
	for range 50 {
		l := many(r, r.Intn(300))
		for n := range 4 {
			ends := fact.Clone(l)
			for i := range ends {
				ends[i].Keys = ends[i].Keys[n:]
			}
			if got, e := ingest.Suffix(n, l...); e != api.OK || !fact.Same(got, slow(ends)) {
				t.Fatalf("Suffix(%d) of %v = %v, %v", n, l, got, e)
			}
		}
	}
}

// TestP23_3_JoinedAsAll: the facts of some rows, and of others, joined, are those of all, in whatever order.
func TestP23_3_JoinedAsAll(t *testing.T) {
	r := rand.New(rand.NewSource(233))
	for range 300 {
		var rows []api.Row
		for range r.Intn(100) {
			rows = append(rows, row([]string{"a", "b", "c"}[r.Intn(3)], []string{"x", "y", "z"}[r.Intn(3)], int64(r.Intn(100)-50), int64(r.Uint64())>>10))
		}
		want, e := ingest.Rows(of(2), rows...)
		if e != api.OK {
			t.Fatalf("Rows = %v", e)
		}
		for range 3 {
			cut := r.Intn(len(rows) + 1)
			a, ofA := ingest.Rows(of(2), rows[:cut]...)
			b, ofB := ingest.Rows(of(2), rows[cut:]...)
			ab, e := ingest.Join(a, b)
			ba, f := ingest.Join(b, a)
			if ofA != api.OK || ofB != api.OK || e != api.OK || f != api.OK || !fact.Same(ab, want) || !fact.Same(ba, want) {
				t.Fatalf("Rows of %v cut at %d, joined = %v, %v, %v, %v", rows, cut, ab, ba, e, f)
			}
			r.Shuffle(len(rows), func(i, k int) { rows[i], rows[k] = rows[k], rows[i] })
		}
	}
}

// TestP23_1_Once: what Rows answers is a row of facts of the schema's shape: each tuple once.
func TestP23_1_Once(t *testing.T) {
	x := api.Shape{Sizes: [][]int{{3}, {3, 2}}, Measures: 1}
	r := rand.New(rand.NewSource(234))
	for range 100 {
		var rows []api.Row
		for range r.Intn(300) {
			rows = append(rows, row([]string{"a", "b", "c"}[r.Intn(3)], []string{"x", "y", "z"}[r.Intn(3)], int64(r.Intn(9))))
		}
		l, e := ingest.Rows(of(1), rows...)
		if e != api.OK || fact.Row(x, l...) != api.OK {
			t.Fatalf("Rows = %v, %v", l, e)
		}
		facts, _ := batch.Facts(of(1), rows...)
		of, fits := fact.All(facts...)
		if got, ok := fact.All(l...); got != of || ok != fits {
			t.Fatalf("all of Rows = %v, all rows are %v", got, of)
		}
	}
}

// roomy is the same facts, with room behind each list's end that holds 55.
func roomy(l []api.Fact) []api.Fact {
	var c []api.Fact
	for _, f := range l {
		keys := append(slices.Clone(f.Keys), 55)
		c = append(c, api.Fact{Keys: keys[:len(f.Keys)], Agg: f.Agg})
	}
	return append(c, one(0, 55))[:len(l)]
}

// untouched tells whether roomy facts are as they were, the room behind their ends included.
func untouched(l, as []api.Fact) bool {
	for _, f := range l {
		if f.Keys[:len(f.Keys)+1][len(f.Keys)] != 55 {
			return false
		}
	}
	return fact.Same(l, as) && fact.Same(l[len(l):len(l)+1], []api.Fact{one(0, 55)})
}

// spoil changes all places of a fact, the room behind their end included.
func spoil(f api.Fact) {
	for k := range f.Keys[:cap(f.Keys)] {
		f.Keys[:cap(f.Keys)][k] = 77
	}
}

// TestP23_1_New: what is handed in is left as it is, and an answer shares nothing with it.
func TestP23_1_New(t *testing.T) {
	some := run.Sort(many(rand.New(rand.NewSource(1)), 40))
	for name, call := range map[string]func(l []api.Fact) []api.Fact{
		"Fold":         func(l []api.Fact) []api.Fact { got, _ := ingest.Fold(l...); return got },
		"Any":          func(l []api.Fact) []api.Fact { got, _ := ingest.Any(l...); return got },
		"Join, first":  func(l []api.Fact) []api.Fact { got, _ := ingest.Join(l, nil); return got },
		"Join, second": func(l []api.Fact) []api.Fact { got, _ := ingest.Join(nil, l); return got },
		"Join, both":   func(l []api.Fact) []api.Fact { got, _ := ingest.Join(l, l); return got },
		"Suffix, 0":    func(l []api.Fact) []api.Fact { got, _ := ingest.Suffix(0, l...); return got },
		"Suffix, 1":    func(l []api.Fact) []api.Fact { got, _ := ingest.Suffix(1, l...); return got },
		"Suffix, 3":    func(l []api.Fact) []api.Fact { got, _ := ingest.Suffix(3, l...); return got },
	} {
		l := roomy(some)
		want, other := call(l), call(l)
		for i := range other {
			spoil(other[i])
			other[i] = want[i]
			if !fact.Same(other, want) {
				t.Errorf("%s: fact %d shares something", name, i)
			}
		}
		if !untouched(l, some) {
			t.Errorf("%s: what was handed in was changed, or is shared", name)
		}
		kept := fact.Clone(want)
		for i, f := range l {
			spoil(f)
			l[i] = one(77, 77)
		}
		if !fact.Same(want, kept) {
			t.Errorf("%s: an answer hangs on what was handed in", name)
		}
	}
}

// TestP23_1_RowsNew: rows and schema are as they were.
func TestP23_1_RowsNew(t *testing.T) {
	s := of(1)
	rows := []api.Row{row("c", "x", 1), row("a", "z", 2), row("c", "x", 3)}
	l, e := ingest.Rows(s, rows...)
	again, _ := ingest.Rows(s, rows...)
	for _, f := range l {
		spoil(f)
	}
	if e != api.OK || !fact.Same(again, []api.Fact{one(2, 0, 2), with(2, part(4, 1, 3), 2, 0)}) {
		t.Errorf("Rows = %v, %v", again, e)
	}
	if b, e := batch.Put(s, rows...); e != api.OK || b != "\x03\x01c\x01x\x02\x01a\x01z\x04\x01c\x01x\x06" {
		t.Errorf("Rows has changed its rows: %q, %v", b, e)
	}
}
