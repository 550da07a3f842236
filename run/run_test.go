package run_test

import (
	"math"
	"math/rand"
	"slices"
	"testing"

	"pithead/api"
	"pithead/fact"
	"pithead/run"
)

// one is a fact that is told from others of its tuple by its Sum.
func one(n int64, keys ...int) api.Fact {
	return api.Fact{Keys: keys, Agg: api.Agg{Count: 1, M: [api.MaxMeasures]api.Part{{Sum: n, Min: n, Max: n}}}}
}

// many are so many facts, of few tuples, some of which begin as others; their Sums rise.
func many(r *rand.Rand, n int) []api.Fact {
	var l []api.Fact
	for i := range n {
		keys := []int{r.Intn(3), r.Intn(4) - 1, r.Intn(2)}
		l = append(l, one(int64(i), keys[:1+r.Intn(3)]...))
	}
	return l
}

// sums are the Sums of facts, by which they are told apart.
func sums(l []api.Fact) []int64 {
	var s []int64
	for _, f := range l {
		s = append(s, f.Agg.M[0].Sum)
	}
	return s
}

// slow is facts sorted by laying each behind those that do not stand behind it.
func slow(l []api.Fact) []api.Fact {
	var sorted []api.Fact
	for _, f := range l {
		at := len(sorted)
		for at > 0 && slices.Compare(sorted[at-1].Keys, f.Keys) > 0 {
			at--
		}
		sorted = slices.Insert(sorted, at, f)
	}
	return sorted
}

func TestP21_1_Cut(t *testing.T) {
	l := []api.Fact{one(1, 3), one(2, 1), one(3, 1), one(4, 0), one(5, 2)}
	for _, c := range []struct {
		size int
		l    []api.Fact
		want [][]int64
	}{
		{1, l, [][]int64{{1}, {2}, {3}, {4}, {5}}},
		{2, l, [][]int64{{1, 2}, {3, 4}, {5}}},
		{3, l, [][]int64{{1, 2, 3}, {4, 5}}},
		{4, l, [][]int64{{1, 2, 3, 4}, {5}}},
		{5, l, [][]int64{{1, 2, 3, 4, 5}}},
		{6, l, [][]int64{{1, 2, 3, 4, 5}}},
		{math.MaxInt, l, [][]int64{{1, 2, 3, 4, 5}}},
		{math.MaxInt, l[:1], [][]int64{{1}}},
		{2, l[:3], [][]int64{{1, 2}, {3}}},
		{2, l[:4], [][]int64{{1, 2}, {3, 4}}},
		{1, nil, nil},
		{2, []api.Fact{}, nil},
		{math.MaxInt, nil, nil},
	} {
		runs, e := run.Cut(c.size, c.l...)
		if e != api.OK || !slices.EqualFunc(runs, c.want, func(r []api.Fact, s []int64) bool { return slices.Equal(sums(r), s) }) {
			t.Errorf("Cut by %d of %d = %v, %v", c.size, len(c.l), runs, e)
		}
		if !fact.Same(slices.Concat(runs...), c.l) {
			t.Errorf("Cut by %d of %d has other facts", c.size, len(c.l))
		}
	}
}

func TestP21_1_SizeBelowOne(t *testing.T) {
	for _, size := range []int{0, -1, -32, math.MinInt} {
		for _, l := range [][]api.Fact{nil, {one(1, 0)}, {one(1, 1), one(2, 0)}} {
			if runs, e := run.Cut(size, l...); runs != nil || e != api.ErrArg {
				t.Errorf("Cut by %d = %v, %v", size, runs, e)
			}
			if runs, e := run.Runs(size, l...); runs != nil || e != api.ErrArg {
				t.Errorf("Runs by %d = %v, %v", size, runs, e)
			}
		}
	}
}

func TestP21_1_Sort(t *testing.T) {
	for _, c := range []struct {
		name string
		l    []api.Fact
		want []int64
	}{
		{"none", nil, nil},
		{"one", []api.Fact{one(1, 5)}, []int64{1}},
		{"falling", []api.Fact{one(1, 2), one(2, 1), one(3, 0)}, []int64{3, 2, 1}},
		{"rising", []api.Fact{one(3, 0), one(2, 1), one(1, 2)}, []int64{3, 2, 1}},
		{"of one tuple, the aggregates falling", []api.Fact{one(3, 1), one(2, 1), one(1, 1)}, []int64{3, 2, 1}},
		{"of one tuple, with others between", []api.Fact{one(9, 1), one(1, 2), one(8, 1), one(0, 0), one(7, 1), one(2, 2)}, []int64{0, 9, 8, 7, 1, 2}},
		{"by the first place that is another one", []api.Fact{one(1, 1, 0, 9), one(2, 1, 0, 8), one(3, 0, 9, 9), one(4, 1, -1, 9)}, []int64{3, 4, 2, 1}},
		{"beginnings ahead", []api.Fact{one(1, 1, 2, 0), one(2, 1, 3), one(3, 1, 2), one(4, 1), one(5)}, []int64{5, 4, 3, 1, 2}},
		{"far apart", []api.Fact{one(1, math.MaxInt), one(2, 0), one(3, math.MinInt)}, []int64{3, 2, 1}},
	} {
		if got := sums(run.Sort(c.l)); !slices.Equal(got, c.want) {
			t.Errorf("%s: Sort = %v, want %v", c.name, got, c.want)
		}
	}
}

// TestP21_1_SortMany: facts of one tuple keep their order also where there are many.
func TestP21_1_SortMany(t *testing.T) {
	r := rand.New(rand.NewSource(21))
	for _, n := range []int{2, 5, 12, 13, 40, 500} {
		for range 20 {
			l := many(r, n)
			if got := run.Sort(l); !fact.Same(got, slow(l)) {
				t.Fatalf("Sort of %v = %v", l, got)
			}
		}
	}
}

func TestP21_1_Sorted(t *testing.T) {
	for _, c := range []struct {
		name string
		l    []api.Fact
		is   bool
	}{
		{"none", nil, true},
		{"none, an empty list", []api.Fact{}, true},
		{"one", []api.Fact{one(1, 5)}, true},
		{"rising", []api.Fact{one(3, 0), one(2, 1), one(1, 2)}, true},
		{"a tuple twice", []api.Fact{one(3, 0), one(2, 1), one(1, 1)}, true},
		{"a beginning ahead", []api.Fact{one(1), one(1, 0), one(1, 0, 0)}, true},
		{"falling", []api.Fact{one(1, 1), one(1, 0)}, false},
		{"falling at the end", []api.Fact{one(1, 0), one(1, 1), one(1, 2), one(1, 1)}, false},
		{"falling at the beginning", []api.Fact{one(1, 1), one(1, 0), one(1, 1), one(1, 2)}, false},
		{"a beginning behind", []api.Fact{one(1, 0, 0), one(1, 0)}, false},
	} {
		if is := run.Sorted(c.l...); is != c.is {
			t.Errorf("%s: Sorted = %v", c.name, is)
		}
	}
}

func TestP21_1_Runs(t *testing.T) {
	l := []api.Fact{one(1, 3), one(2, 1), one(3, 1), one(4, 0), one(5, 2)}
	for _, c := range []struct {
		size int
		want [][]int64
	}{
		{1, [][]int64{{1}, {2}, {3}, {4}, {5}}},
		{2, [][]int64{{2, 1}, {4, 3}, {5}}},
		{3, [][]int64{{2, 3, 1}, {4, 5}}},
		{4, [][]int64{{4, 2, 3, 1}, {5}}},
		{5, [][]int64{{4, 2, 3, 5, 1}}},
		{math.MaxInt, [][]int64{{4, 2, 3, 5, 1}}},
	} {
		runs, e := run.Runs(c.size, l...)
		if e != api.OK || !slices.EqualFunc(runs, c.want, func(r []api.Fact, s []int64) bool { return slices.Equal(sums(r), s) }) {
			t.Errorf("Runs by %d = %v, %v", c.size, runs, e)
		}
	}
	if runs, e := run.Runs(3); len(runs) != 0 || e != api.OK {
		t.Errorf("Runs of none = %v, %v", runs, e)
	}
}

// TestP21_2_JustThese: the runs have just the facts that came, piece by piece, and each is sorted.
func TestP21_2_JustThese(t *testing.T) {
	r := rand.New(rand.NewSource(212))
	for range 300 {
		l := many(r, r.Intn(80))
		size := 1 + r.Intn(40)
		runs, e := run.Runs(size, l...)
		if e != api.OK || len(runs) != (len(l)+size-1)/size {
			t.Fatalf("%d facts by %d: %d runs, %v", len(l), size, len(runs), e)
		}
		for i, piece := range runs {
			from, to := i*size, min((i+1)*size, len(l))
			if !run.Sorted(piece...) || !fact.Same(piece, slow(l[from:to])) {
				t.Fatalf("%d facts by %d: run %d is %v", len(l), size, i, piece)
			}
		}
	}
}

// roomy is the same facts, with room behind each list's end that holds 55.
func roomy(l []api.Fact) []api.Fact {
	var c []api.Fact
	for _, f := range l {
		keys := append(slices.Clone(f.Keys), 55)
		c = append(c, api.Fact{Keys: keys[:len(f.Keys)], Agg: f.Agg})
	}
	return append(c, one(0, 55))[:len(l)]
}

// untouched tells whether roomy facts are as they were, the room behind their ends included.
func untouched(l, as []api.Fact) bool {
	for _, f := range l {
		if f.Keys[:len(f.Keys)+1][len(f.Keys)] != 55 {
			return false
		}
	}
	return fact.Same(l, as) && fact.Same(l[len(l):len(l)+1], []api.Fact{one(0, 55)})
}

// spoil changes all of some facts, the room behind the lists' ends included.
func spoil(l []api.Fact) {
	l = l[:cap(l)]
	for i, f := range l {
		for k := range f.Keys[:cap(f.Keys)] {
			f.Keys[:cap(f.Keys)][k] = 77
		}
		l[i] = one(77, 77)
	}
}

// TestP21_1_New: what is handed in is left as it is, and no two lists of an answer share anything.
func TestP21_1_New(t *testing.T) {
	base := many(rand.New(rand.NewSource(3)), 11)
	for name, call := range map[string]func(l []api.Fact) [][]api.Fact{
		"Cut":  func(l []api.Fact) [][]api.Fact { runs, _ := run.Cut(3, l...); return runs },
		"Runs": func(l []api.Fact) [][]api.Fact { runs, _ := run.Runs(3, l...); return runs },
		"Sort": func(l []api.Fact) [][]api.Fact { return [][]api.Fact{run.Sort(l)} },
	} {
		l := roomy(base)
		want := call(roomy(base))
		for i := range want {
			runs := call(l)
			spoil(runs[i])
			for k := range runs {
				if k != i && !fact.Same(runs[k], want[k]) {
					t.Errorf("%s: runs %d and %d share something", name, i, k)
				}
			}
			if !untouched(l, base) {
				t.Errorf("%s: run %d shares something with what was handed in", name, i)
			}
		}
		runs := call(l)
		for i := range runs[0] {
			for k := range runs[0][i].Keys[:cap(runs[0][i].Keys)] {
				runs[0][i].Keys[:cap(runs[0][i].Keys)][k] = 77
			}
			if !fact.Same(runs[0][i+1:], want[0][i+1:]) {
				t.Errorf("%s: two facts of a run share something", name)
			}
		}
		runs = call(l)
		spoil(l)
		for k := range runs {
			if !fact.Same(runs[k], want[k]) {
				t.Errorf("%s: run %d hangs on what was handed in", name, k)
			}
		}
	}
}
