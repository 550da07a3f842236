package rows_test

import (
	"fmt"
	"maps"
	"math"
	"math/rand"
	"slices"
	"testing"

	"pithead/agg"
	"pithead/api"
	"pithead/fact"
	"pithead/rows"
)

const most, least = math.MaxInt64, math.MinInt64

// one is the aggregate of a row.
func one(values ...int64) api.Agg {
	a, _ := agg.Of(values...)
	return a
}

// table is one without groups.
func table(t *testing.T, width, most int) *rows.Table {
	t.Helper()
	x, e := rows.New(width, most)
	if e != api.OK || x == nil {
		t.Fatalf("New(%d, %d) = %v, %v", width, most, x, e)
	}
	return x
}

// put puts an aggregate, which must be taken.
func put(t *testing.T, x *rows.Table, a api.Agg, keys ...int) {
	t.Helper()
	if e := x.Put(keys, a); e != api.OK {
		t.Fatalf("Put(%v, %v) = %v", keys, a, e)
	}
}

// wantRows: a table has just these groups.
func wantRows(t *testing.T, name string, x *rows.Table, want ...api.Fact) {
	t.Helper()
	if l := x.Rows(); !fact.Same(l, want) || x.Len() != len(want) {
		t.Errorf("%s: %d, %v, want %v", name, x.Len(), l, want)
	}
}

// group is one of a table.
func group(a api.Agg, keys ...int) api.Fact { return api.Fact{Keys: keys, Agg: a} }

func TestP38_1_New(t *testing.T) {
	for _, c := range []struct {
		width, most int
		e           api.Errno
	}{
		{0, 0, api.OK}, {0, 1, api.OK}, {1, 0, api.OK}, {16, 4000, api.OK}, {16, 0, api.OK}, {7, 500, api.OK},
		{-1, 1, api.ErrArg}, {17, 1, api.ErrArg}, {1, -1, api.ErrArg}, {1, 4001, api.ErrArg},
		{least, most, api.ErrArg}, {most, least, api.ErrArg}, {0, most, api.ErrArg}, {most, 0, api.ErrArg},
	} {
		x, e := rows.New(c.width, c.most)
		if e != c.e || (x == nil) != (e != api.OK) {
			t.Errorf("New(%d, %d) = %v, %v, want %v", c.width, c.most, x, e, c.e)
		}
		if x != nil {
			wantRows(t, "without groups", x)
		}
	}
}

func TestP38_1_Put(t *testing.T) {
	x := table(t, 2, 5)
	put(t, x, one(5, 1), 1, 2)
	put(t, x, one(-3, 9), 0, 7)
	put(t, x, one(7, 1), 1, 2)
	put(t, x, one(2, 2), 1, 1)
	joined, _ := agg.Join(one(5, 1), one(7, 1))
	wantRows(t, "three", x, group(one(-3, 9), 0, 7), group(one(2, 2), 1, 1), group(joined, 1, 2))
	if joined.Count != 2 || joined.M[0] != (api.Part{Sum: 12, Min: 5, Max: 7}) || joined.M[1] != (api.Part{Sum: 2, Min: 1, Max: 1}) {
		t.Errorf("joined to %v", joined)
	}
	// What may not be an aggregate elsewhere is joined all the same.
	odd := api.Agg{Count: 1, M: [3]api.Part{{Sum: 1, Min: 9, Max: -9}, {}, {Sum: 4}}}
	put(t, x, odd, 3, 3)
	put(t, x, odd, 3, 3)
	both, _ := agg.Join(odd, odd)
	wantRows(t, "four", x, group(one(-3, 9), 0, 7), group(one(2, 2), 1, 1), group(joined, 1, 2), group(both, 3, 3))
}

// TestP38_1_Order: rows come by rising keys, as numbers, the first key first.
func TestP38_1_Order(t *testing.T) {
	keys := []int{0, 1, 2, 9, 10, 127, 128, 129, 199, 255, 256, 16383, 16384, 1<<21 - 1, 1 << 21, 1 << 31, 1 << 55, 1 << 56, most - 1, most}
	x := table(t, 2, api.MaxFacts)
	var want []api.Fact
	for _, a := range keys {
		for _, b := range keys {
			want = append(want, group(one(int64(a%1000), int64(b%1000)), a, b))
		}
	}
	for _, i := range rand.New(rand.NewSource(38)).Perm(len(want)) {
		put(t, x, want[i].Agg, want[i].Keys...)
	}
	wantRows(t, "by rising keys", x, want...)
}

func TestP38_1_Width(t *testing.T) {
	x := table(t, 0, 1)
	put(t, x, one(3))
	if e := x.Put([]int{}, one(4)); e != api.OK {
		t.Errorf("Put = %v", e)
	}
	both, _ := agg.Join(one(3), one(4))
	wantRows(t, "no keys", x, group(both))
	if e := x.Put([]int{0}, one(4)); e != api.ErrArg {
		t.Errorf("Put of a key = %v", e)
	}
	keys := []int{0, most, 1, 2, 3, 300, 5, 6, 7, 8, 9, 10, 70000, 12, 13, 14}
	x = table(t, 16, 1)
	put(t, x, one(3), keys...)
	wantRows(t, "sixteen keys", x, group(one(3), keys...))
	for _, n := range []int{0, 15, 17, 500} {
		if e := x.Put(make([]int, n), one(3)); e != api.ErrArg {
			t.Errorf("Put of %d keys = %v", n, e)
		}
	}
}

// TestP38_1_Errors: in their order, and with none of them anything is changed.
func TestP38_1_Errors(t *testing.T) {
	great, low := one(most), one(least)
	x := table(t, 2, 2)
	put(t, x, great, 0, 1)
	put(t, x, low, 4, 0)
	for name, c := range map[string]struct {
		keys []int
		a    api.Agg
		e    api.Errno
	}{
		"no key":                            {nil, one(1), api.ErrArg},
		"a key too few":                     {[]int{0}, one(1), api.ErrArg},
		"a key too many":                    {[]int{0, 1, 2}, one(1), api.ErrArg},
		"a first key below 0":               {[]int{-1, 1}, one(1), api.ErrArg},
		"a last key far below 0":            {[]int{0, least}, one(1), api.ErrArg},
		"no rows":                           {[]int{0, 1}, api.Agg{}, api.ErrArg},
		"no rows, but a sum":                {[]int{0, 1}, api.Agg{M: great.M}, api.ErrArg},
		"rows below 0":                      {[]int{0, 1}, api.Agg{Count: -1}, api.ErrArg},
		"rows far below 0, of a new group":  {[]int{7, 7}, api.Agg{Count: least}, api.ErrArg},
		"a new group":                       {[]int{7, 7}, one(1), api.ErrRows},
		"a new group of none of these keys": {[]int{1, 0}, great, api.ErrRows},
		"a sum above all":                   {[]int{0, 1}, one(1), api.ErrOver},
		"a sum below all":                   {[]int{4, 0}, one(-1), api.ErrOver},
		"rows above all":                    {[]int{0, 1}, api.Agg{Count: most}, api.ErrOver},
	} {
		before := slices.Clone(c.keys)
		if e := x.Put(c.keys, c.a); e != c.e {
			t.Errorf("%s: Put = %v, want %v", name, e, c.e)
		}
		wantRows(t, name, x, group(great, 0, 1), group(low, 4, 0))
		if !slices.Equal(before, c.keys) {
			t.Errorf("%s: the keys were changed", name)
		}
	}
	put(t, x, one(-1), 0, 1)
	both, _ := agg.Join(great, one(-1))
	wantRows(t, "behind all errors", x, group(both, 0, 1), group(low, 4, 0))
}

// TestP38_1_EachMeasure: a sum that does not fit is told of each measure.
func TestP38_1_EachMeasure(t *testing.T) {
	for i := range 3 {
		x := table(t, 1, 1)
		first, more := one(1, 1, 1), one(1, 1, 1)
		first.M[i].Sum = most
		put(t, x, first, 3)
		if e := x.Put([]int{3}, more); e != api.ErrOver {
			t.Errorf("the measure %d: Put = %v", i, e)
		}
		wantRows(t, "as it was", x, group(first, 3))
	}
}

func TestP38_1_Most(t *testing.T) {
	for _, n := range []int{0, 1, 2, 500, 4000} {
		x := table(t, 1, n)
		for i := range n {
			put(t, x, one(int64(i)), i)
		}
		if e := x.Put([]int{n}, one(1)); e != api.ErrRows || x.Len() != n {
			t.Errorf("of at most %d: Put = %v, %d groups", n, e, x.Len())
		}
		for i := range n {
			put(t, x, one(int64(i)), i)
		}
		if x.Len() != n || len(x.Rows()) != n {
			t.Errorf("of at most %d: %d groups, %d rows", n, x.Len(), len(x.Rows()))
		}
	}
}

func TestP38_1_NotMade(t *testing.T) {
	made := table(t, 1, 5)
	put(t, made, one(1), 1)
	copied := *made
	for name, x := range map[string]*rows.Table{"nil": nil, "plain": {}, "a copy": &copied} {
		for _, keys := range [][]int{nil, {1}, {-1}, {1, 2}} {
			for _, a := range []api.Agg{{}, one(1)} {
				if e := x.Put(keys, a); e != api.ErrNil {
					t.Errorf("%s: Put = %v", name, e)
				}
			}
		}
		if x.Len() != 0 || len(x.Rows()) != 0 {
			t.Errorf("%s: %d groups, %v", name, x.Len(), x.Rows())
		}
	}
	wantRows(t, "the one that was made", made, group(one(1), 1))
}

// TestP38_1_Memory: keys that are put are not kept; rows share nothing with the table, or with one another.
func TestP38_1_Memory(t *testing.T) {
	x := table(t, 2, 9)
	keys := append(make([]int, 0, 8), 1, 2)
	put(t, x, one(3), keys...)
	keys[0], keys[1] = 5, 6
	put(t, x, one(4), keys...)
	if keys[:4][2] != 0 || keys[:4][3] != 0 {
		t.Error("the keys' spare room was changed")
	}
	l := x.Rows()
	l[0].Keys = append(l[0].Keys, 77, 77)
	l[0].Keys[0], l[0].Agg.Count = 88, 99
	l = append(l, l[0])
	l[1].Keys = append(l[1].Keys[:1], 66)
	wantRows(t, "as it was", x, group(one(3), 1, 2), group(one(4), 5, 6))
	second := table(t, 2, 9)
	put(t, second, one(1), 1, 2)
	wantRows(t, "another one", x, group(one(3), 1, 2), group(one(4), 5, 6))
}

// TestP38_2_AnyOrder: whatever the order, the rows are the same, and what a model of them has that is written another way.
func TestP38_2_AnyOrder(t *testing.T) {
	r := rand.New(rand.NewSource(382))
	for range 200 {
		width := r.Intn(4)
		var l []api.Fact
		for range r.Intn(60) {
			f := group(one(int64(r.Intn(99)-49), int64(r.Intn(9))))
			for range width {
				f.Keys = append(f.Keys, []int{0, 1, 2, 130, 20000}[r.Intn(5)])
			}
			l = append(l, f)
		}
		want := grouped(l)
		for range 3 {
			x := table(t, width, api.MaxFacts)
			r.Shuffle(len(l), func(i, j int) { l[i], l[j] = l[j], l[i] })
			for _, f := range l {
				put(t, x, f.Agg, f.Keys...)
			}
			wantRows(t, fmt.Sprint(l), x, want...)
		}
	}
}

// grouped is the facts of each tuple together, by rising tuples.
func grouped(l []api.Fact) []api.Fact {
	all := map[string][]api.Fact{}
	for _, f := range l {
		name := fmt.Sprint(f.Keys)
		all[name] = append(all[name], f)
	}
	var want []api.Fact
	for _, same := range slices.Collect(maps.Values(all)) {
		a, _ := fact.All(same...)
		want = append(want, group(a, same[0].Keys...))
	}
	slices.SortFunc(want, fact.Compare)
	return want
}
