package kmerge_test

import (
	"math"
	"math/rand"
	"slices"
	"testing"

	"pithead/api"
	"pithead/fact"
	"pithead/kmerge"
	"pithead/run"
)

// one is a fact that is told from others of its tuple by its Sum.
func one(n int64, keys ...int) api.Fact {
	return api.Fact{Keys: keys, Agg: api.Agg{Count: 1, M: [api.MaxMeasures]api.Part{{Sum: n, Min: n, Max: n}}}}
}

// many are so many facts, of few tuples, some of which begin as others; their Sums rise from a number on.
func many(r *rand.Rand, n int, from int64) []api.Fact {
	var l []api.Fact
	for i := range n {
		keys := []int{r.Intn(3), r.Intn(4) - 1, r.Intn(2)}
		l = append(l, one(from+int64(i), keys[:1+r.Intn(3)]...))
	}
	return l
}

// sums are the Sums of facts, by which they are told apart.
func sums(l []api.Fact) []int64 {
	var s []int64
	for _, f := range l {
		s = append(s, f.Agg.M[0].Sum)
	}
	return s
}

// sortedRuns are some runs, of unlike lengths, each sorted; all Sums are unlike.
func sortedRuns(r *rand.Rand, n int) [][]api.Fact {
	var runs [][]api.Fact
	for i := range n {
		runs = append(runs, run.Sort(many(r, r.Intn(8), int64(100*i))))
	}
	return runs
}

func TestP22_1_Merge(t *testing.T) {
	for _, c := range []struct {
		name string
		runs [][]api.Fact
		want []int64
	}{
		{"no runs", nil, nil},
		{"an empty one", [][]api.Fact{nil}, nil},
		{"empty ones", [][]api.Fact{nil, {}, nil}, nil},
		{"one", [][]api.Fact{{one(1, 0), one(2, 1)}}, []int64{1, 2}},
		{"one behind the other", [][]api.Fact{{one(1, 0), one(2, 1)}, {one(3, 2), one(4, 3)}}, []int64{1, 2, 3, 4}},
		{"one ahead of the other", [][]api.Fact{{one(1, 2), one(2, 3)}, {one(3, 0), one(4, 1)}}, []int64{3, 4, 1, 2}},
		{"by turns", [][]api.Fact{{one(1, 0), one(2, 2)}, {one(3, 1), one(4, 3)}}, []int64{1, 3, 2, 4}},
		{"empty ones between", [][]api.Fact{nil, {one(1, 1)}, {}, {one(2, 0)}, nil}, []int64{2, 1}},
		{"one tuple in each", [][]api.Fact{{one(3, 1)}, {one(2, 1)}, {one(1, 1)}}, []int64{3, 2, 1}},
		{"one tuple often in each", [][]api.Fact{{one(9, 1), one(8, 1)}, {one(7, 1), one(6, 1)}, {one(5, 1)}}, []int64{9, 8, 7, 6, 5}},
		{"one tuple, others ahead of it in the first runs", [][]api.Fact{{one(1, 0), one(2, 0), one(3, 5)}, {one(4, 0), one(5, 5)}, {one(6, 5)}}, []int64{1, 2, 4, 3, 5, 6}},
		{"beginnings ahead", [][]api.Fact{{one(1, 1, 2, 0)}, {one(2, 1, 2)}, {one(3)}, {one(4, 1)}}, []int64{3, 4, 2, 1}},
		{"far apart", [][]api.Fact{{one(1, math.MaxInt)}, {one(2, math.MinInt)}, {one(3, 0)}}, []int64{2, 3, 1}},
	} {
		if got := sums(kmerge.Merge(c.runs...)); !slices.Equal(got, c.want) {
			t.Errorf("%s: Merge = %v, want %v", c.name, got, c.want)
		}
	}
}

// TestP22_1_MergeMany: merged, sorted runs are what they are one behind the other, sorted.
func TestP22_1_MergeMany(t *testing.T) {
	r := rand.New(rand.NewSource(22))
	for range 500 {
		runs := sortedRuns(r, r.Intn(30))
		if got := kmerge.Merge(runs...); !fact.Same(got, run.Sort(slices.Concat(runs...))) {
			t.Fatalf("Merge of %v = %v", runs, got)
		}
	}
}

// passesOf is how often runs are gone through till one is left, told one by one.
func passesOf(fan, runs int) int {
	n := 0
	for runs > 1 {
		more := runs % fan
		runs /= fan
		if more > 0 {
			runs++
		}
		n++
	}
	return n
}

func TestP22_1_Passes(t *testing.T) {
	for _, c := range []struct{ fan, runs, passes int }{
		{2, 0, 0}, {2, 1, 0}, {2, 2, 1}, {2, 3, 2}, {2, 4, 2}, {2, 5, 3}, {2, 8, 3}, {2, 9, 4},
		{3, 3, 1}, {3, 4, 2}, {3, 9, 2}, {3, 10, 3},
		{4, 4, 1}, {4, 5, 2}, {4, 16, 2}, {4, 17, 3}, {4, 64, 3}, {4, 65, 4}, {4, 125, 4},
		{math.MaxInt, 0, 0}, {math.MaxInt, 1, 0}, {math.MaxInt, 2, 1}, {math.MaxInt, 50, 1},
	} {
		var runs [][]api.Fact
		var want []int64
		for i := range c.runs {
			runs = append(runs, []api.Fact{one(int64(i), c.runs-i)})
			want = append([]int64{int64(i)}, want...)
		}
		l, n, e := kmerge.Passes(c.fan, runs...)
		if n != c.passes || e != api.OK || !slices.Equal(sums(l), want) {
			t.Errorf("Passes of %d runs by %d = %v, %d, %v", c.runs, c.fan, sums(l), n, e)
		}
	}
}

func TestP22_1_PassesOfEmpty(t *testing.T) {
	for runs := range 12 {
		for fan := 2; fan < 6; fan++ {
			l, n, e := kmerge.Passes(fan, make([][]api.Fact, runs)...)
			if len(l) != 0 || n != passesOf(fan, runs) || e != api.OK {
				t.Errorf("Passes of %d empty runs by %d = %v, %d, %v", runs, fan, l, n, e)
			}
		}
	}
	if l, n, e := kmerge.Passes(2, nil, []api.Fact{one(1, 0)}, nil); !slices.Equal(sums(l), []int64{1}) || n != 2 || e != api.OK {
		t.Errorf("Passes of a run between empty ones = %v, %d, %v", l, n, e)
	}
}

func TestP22_1_PassesMany(t *testing.T) {
	r := rand.New(rand.NewSource(221))
	for range 300 {
		runs := sortedRuns(r, r.Intn(30))
		fan := 2 + r.Intn(6)
		l, n, e := kmerge.Passes(fan, runs...)
		if e != api.OK || n != passesOf(fan, len(runs)) || !fact.Same(l, run.Sort(slices.Concat(runs...))) {
			t.Fatalf("Passes of %v by %d = %v, %d, %v", runs, fan, l, n, e)
		}
	}
}

func TestP22_1_FanBelowTwo(t *testing.T) {
	for _, fan := range []int{1, 0, -1, -4, math.MinInt} {
		for _, runs := range [][][]api.Fact{nil, {nil}, {{one(1, 0)}}, {{one(1, 0)}, {one(2, 1)}}} {
			if l, n, e := kmerge.Passes(fan, runs...); l != nil || n != 0 || e != api.ErrArg {
				t.Errorf("Passes by %d = %v, %d, %v", fan, l, n, e)
			}
		}
	}
}

// TestP22_1_Unsorted: of runs that are not sorted all facts come, in some order, and the passes are counted alike.
func TestP22_1_Unsorted(t *testing.T) {
	r := rand.New(rand.NewSource(222))
	for range 300 {
		var runs [][]api.Fact
		for i := range r.Intn(12) {
			runs = append(runs, many(r, r.Intn(8), int64(100*i)))
		}
		want := sums(slices.Concat(runs...))
		slices.Sort(want)
		got := sums(kmerge.Merge(runs...))
		slices.Sort(got)
		if !slices.Equal(got, want) {
			t.Fatalf("Merge of %v has %v", runs, got)
		}
		fan := 2 + r.Intn(4)
		l, n, e := kmerge.Passes(fan, runs...)
		got = sums(l)
		slices.Sort(got)
		if !slices.Equal(got, want) || n != passesOf(fan, len(runs)) || e != api.OK {
			t.Fatalf("Passes of %v by %d has %v, %d, %v", runs, fan, got, n, e)
		}
		if l, n, e := kmerge.Passes(1, runs...); l != nil || n != 0 || e != api.ErrArg {
			t.Fatalf("Passes by 1 = %v, %d, %v", l, n, e)
		}
	}
}

func TestP22_2_Sort(t *testing.T) {
	l := []api.Fact{one(1, 3), one(2, 1), one(3, 1), one(4, 0), one(5, 2), one(6, 1)}
	if got, e := kmerge.Sort(2, 2, l...); e != api.OK || !slices.Equal(sums(got), []int64{4, 2, 3, 6, 5, 1}) {
		t.Errorf("Sort = %v, %v", sums(got), e)
	}
	for _, l := range [][]api.Fact{nil, {}} {
		if got, e := kmerge.Sort(1, 2, l...); len(got) != 0 || e != api.OK {
			t.Errorf("Sort of none = %v, %v", got, e)
		}
	}
	for _, c := range []struct {
		size, fan int
		e         api.Errno
	}{
		{0, 2, api.ErrArg}, {-1, 2, api.ErrArg}, {math.MinInt, 2, api.ErrArg},
		{1, 1, api.ErrArg}, {1, 0, api.ErrArg}, {32, -1, api.ErrArg}, {100, math.MinInt, api.ErrArg},
		{0, 0, api.ErrArg}, {1, 2, api.OK}, {math.MaxInt, math.MaxInt, api.OK},
	} {
		for _, l := range [][]api.Fact{nil, l[:1], l} {
			if got, e := kmerge.Sort(c.size, c.fan, l...); e != c.e || e != api.OK && got != nil || e == api.OK && len(got) != len(l) {
				t.Errorf("Sort by %d, %d of %d = %v, %v", c.size, c.fan, len(l), got, e)
			}
		}
	}
}

// TestP22_3_AsRunSort: whatever the size and the fan, facts are sorted as by run's Sort.
func TestP22_3_AsRunSort(t *testing.T) {
	r := rand.New(rand.NewSource(223))
	for _, n := range []int{0, 1, 2, 3, 31, 32, 33, 100, 300} {
		l := many(r, n, 0)
		want := run.Sort(l)
		for _, size := range []int{1, 2, 3, 7, api.RunRows, 99, 100, 101, math.MaxInt} {
			for _, fan := range []int{2, 3, api.FanIn, 10, math.MaxInt} {
				if got, e := kmerge.Sort(size, fan, l...); e != api.OK || !fact.Same(got, want) {
					t.Errorf("Sort by %d, %d of %d = %v, %v", size, fan, n, got, e)
				}
			}
		}
	}
}

// roomy is the same facts, with room behind each list's end that holds 55.
func roomy(l []api.Fact) []api.Fact {
	var c []api.Fact
	for _, f := range l {
		keys := append(slices.Clone(f.Keys), 55)
		c = append(c, api.Fact{Keys: keys[:len(f.Keys)], Agg: f.Agg})
	}
	return append(c, one(0, 55))[:len(l)]
}

// untouched tells whether roomy facts are as they were, the room behind their ends included.
func untouched(l, as []api.Fact) bool {
	for _, f := range l {
		if f.Keys[:len(f.Keys)+1][len(f.Keys)] != 55 {
			return false
		}
	}
	return fact.Same(l, as) && fact.Same(l[len(l):len(l)+1], []api.Fact{one(0, 55)})
}

// spoil changes all places of a fact, the room behind their end included.
func spoil(f api.Fact) {
	for k := range f.Keys[:cap(f.Keys)] {
		f.Keys[:cap(f.Keys)][k] = 77
	}
}

// calls are the calls that answer facts, of runs.
func calls() map[string]func(runs [][]api.Fact) []api.Fact {
	return map[string]func(runs [][]api.Fact) []api.Fact{
		"Merge":     func(runs [][]api.Fact) []api.Fact { return kmerge.Merge(runs...) },
		"Passes":    func(runs [][]api.Fact) []api.Fact { l, _, _ := kmerge.Passes(2, runs...); return l },
		"one run":   func(runs [][]api.Fact) []api.Fact { l, _, _ := kmerge.Passes(2, runs[0]); return l },
		"Sort":      func(runs [][]api.Fact) []api.Fact { l, _ := kmerge.Sort(2, 2, runs[0]...); return l },
		"one piece": func(runs [][]api.Fact) []api.Fact { l, _ := kmerge.Sort(99, 2, runs[0]...); return l },
	}
}

// TestP22_1_New: what is handed in is left as it is, the list of runs too, and an answer shares nothing with it.
func TestP22_1_New(t *testing.T) {
	for name, call := range calls() {
		base := sortedRuns(rand.New(rand.NewSource(5)), 5)
		var runs [][]api.Fact
		for _, l := range base {
			runs = append(runs, roomy(l))
		}
		want, other := call(runs), call(runs)
		if len(want) < 2 {
			t.Fatalf("%s: only %d facts", name, len(want))
		}
		for i := range other {
			spoil(other[i])
			other[i] = want[i]
			if !fact.Same(other, want) {
				t.Errorf("%s: fact %d shares something", name, i)
			}
		}
		for i, l := range runs {
			if !untouched(l, base[i]) {
				t.Errorf("%s: run %d was changed, or shares something", name, i)
			}
		}
		kept := fact.Clone(want)
		for _, l := range runs {
			for i, f := range l {
				spoil(f)
				l[i] = one(77, 77)
			}
		}
		if !fact.Same(want, kept) {
			t.Errorf("%s: an answer hangs on what was handed in", name)
		}
	}
}
