package agg_test

import (
	"math"
	"math/big"
	"math/rand"
	"testing"

	"pithead/agg"
	"pithead/api"
	"pithead/take"
)

const (
	most  = math.MaxInt64
	least = math.MinInt64
)

// of is an aggregate of a count and of parts.
func of(count int64, parts ...api.Part) api.Agg {
	a := api.Agg{Count: count}
	copy(a.M[:], parts)
	return a
}

// part is a measure's part: sum, least, greatest.
func part(sum, least, greatest int64) api.Part {
	return api.Part{Sum: sum, Min: least, Max: greatest}
}

func TestP6_1_May(t *testing.T) {
	one := part(5, 5, 5)
	for _, c := range []struct {
		name     string
		measures int
		a        api.Agg
		is       bool
	}{
		{"no measures", 0, of(1), true},
		{"no measures, many rows", 0, of(most), true},
		{"one row", 1, of(1, one), true},
		{"one row of three", 3, of(1, one, part(0, 0, 0), part(-2, -2, -2)), true},
		{"two rows", 1, of(2, part(3, -2, 5)), true},
		{"two rows, all the same", 1, of(2, part(6, 3, 3)), true},
		{"a sum beside its ends", 1, of(2, part(most, 0, 1)), true},
		{"no rows", 1, of(0), false},
		{"no rows, no measures", 0, of(0), false},
		{"rows below 0", 1, of(-1), false},
		{"the least of rows", 0, of(least), false},
		{"measures below 0", -1, of(1), false},
		{"the least of measures", math.MinInt, of(1), false},
		{"four measures", 4, of(1, one, one, one), false},
		{"the most measures", math.MaxInt, of(1), false},
		{"Min above Max", 1, of(2, part(3, 5, -2)), false},
		{"Min above Max, later", 3, of(2, part(3, 1, 2), part(0, 0, 0), part(1, 1, 0)), false},
		{"one row, another sum", 1, of(1, part(6, 5, 5)), false},
		{"one row, another Min", 1, of(1, part(5, 4, 5)), false},
		{"one row, another Max", 1, of(1, part(5, 5, 6)), false},
		{"one row, another Max of the third", 3, of(1, one, one, part(5, 5, 6)), false},
		{"a further sum", 1, of(2, part(3, 1, 2), part(1, 0, 0)), false},
		{"a further Min", 1, of(2, part(3, 1, 2), part(0, -1, 0)), false},
		{"a further Max", 1, of(2, part(3, 1, 2), part(0, 0, 1)), false},
		{"a further row", 2, of(1, one, one, one), false},
		{"one of no measures", 0, of(1, one), false},
	} {
		if got := agg.May(c.measures, c.a); got != c.is {
			t.Errorf("%s: May = %v", c.name, got)
		}
	}
}

func TestP6_1_Of(t *testing.T) {
	for _, c := range []struct {
		l []int64
		a api.Agg
		e api.Errno
	}{
		{nil, of(1), api.OK},
		{[]int64{5}, of(1, part(5, 5, 5)), api.OK},
		{[]int64{5, -2}, of(1, part(5, 5, 5), part(-2, -2, -2)), api.OK},
		{[]int64{least, 0, most}, of(1, part(least, least, least), part(0, 0, 0), part(most, most, most)), api.OK},
		{[]int64{1, 2, 3, 4}, api.Agg{}, api.ErrLimit},
		{make([]int64, 1000), api.Agg{}, api.ErrLimit},
	} {
		if a, e := agg.Of(c.l...); a != c.a || e != c.e {
			t.Errorf("Of(%d values) = %v, %v, want %v, %v", len(c.l), a, e, c.a, c.e)
		}
	}
}

func TestP6_1_Join(t *testing.T) {
	odd := of(0, part(1, 2, 3), part(4, 5, 6))
	for _, c := range []struct {
		name    string
		a, b, w api.Agg
		ok      bool
	}{
		{"two rows", of(1, part(5, 5, 5)), of(1, part(-2, -2, -2)), of(2, part(3, -2, 5)), true},
		{"the other way", of(1, part(-2, -2, -2)), of(1, part(5, 5, 5)), of(2, part(3, -2, 5)), true},
		{"three measures", of(2, part(1, 0, 1), part(9, 4, 5), part(-3, -2, -1)), of(3, part(2, -5, 9), part(9, 3, 3), part(-1, -1, 0)),
			of(5, part(3, -5, 9), part(18, 3, 5), part(-4, -2, 0)), true},
		{"none of both", api.Agg{}, api.Agg{}, api.Agg{}, true},
		{"none with one", api.Agg{}, of(1, part(5, 5, 5)), of(1, part(5, 5, 5)), true},
		{"one with none", of(2, part(3, -2, 5)), api.Agg{}, of(2, part(3, -2, 5)), true},
		{"no rows, though with parts, first", odd, of(2, part(3, -2, 5)), of(2, part(3, -2, 5)), true},
		{"no rows, though with parts, second", of(2, part(3, -2, 5)), odd, of(2, part(3, -2, 5)), true},
		{"no rows in both: a is looked at first", of(0, part(7, 7, 7)), odd, odd, true},
		{"a Min above 0 is the least", of(2, part(9, 4, 5)), of(2, part(7, 3, 4)), of(4, part(16, 3, 5)), true},
		{"a Max below 0 is the greatest", of(2, part(-9, -5, -4)), of(2, part(-11, -6, -5)), of(4, part(-20, -6, -4)), true},
		{"the most rows", of(most - 1), of(1), of(most), true},
		{"rows that do not fit", of(most), of(1), api.Agg{}, false},
		{"rows below 0 that do not fit", of(least), of(-1), api.Agg{}, false},
		{"a sum that just fits", of(1, part(most-1, 0, 0)), of(1, part(1, 1, 1)), of(2, part(most, 0, 1)), true},
		{"a sum that does not fit", of(1, part(most, most, most)), of(1, part(1, 1, 1)), api.Agg{}, false},
		{"a second sum below", of(1, part(0, 0, 0), part(least, 0, 0)), of(1, part(0, 0, 0), part(-1, 0, 0)), api.Agg{}, false},
		{"a third sum", of(1, part(5, 5, 5), part(0, 0, 0), part(most, 0, 0)), of(1, part(5, 5, 5), part(0, 0, 0), part(most, 0, 0)), api.Agg{}, false},
		{"ends that would not fit as sums", of(1, part(0, least, most)), of(1, part(0, least, most)), of(2, part(0, least, most)), true},
	} {
		if got, ok := agg.Join(c.a, c.b); got != c.w || ok != c.ok {
			t.Errorf("%s: Join = %v, %v, want %v, %v", c.name, got, ok, c.w, c.ok)
		}
	}
}

func TestP6_1_All(t *testing.T) {
	for _, c := range []struct {
		name string
		l    []api.Agg
		w    api.Agg
		ok   bool
	}{
		{"none", nil, api.Agg{}, true},
		{"one", []api.Agg{of(2, part(3, -2, 5))}, of(2, part(3, -2, 5)), true},
		{"three", []api.Agg{of(1, part(5, 5, 5)), of(1, part(-2, -2, -2)), of(1, part(9, 9, 9))}, of(3, part(12, -2, 9)), true},
		{"ones of no rows between", []api.Agg{{}, of(1, part(5, 5, 5)), {}, of(1, part(-2, -2, -2)), {}}, of(2, part(3, -2, 5)), true},
		{"a sum that comes back", []api.Agg{of(1, part(most, most, most)), of(1, part(-1, -1, -1)), of(1, part(1, 1, 1))}, of(3, part(most, -1, most)), true},
		{"a sum on the way", []api.Agg{of(1, part(most, most, most)), of(1, part(1, 1, 1)), of(1, part(-1, -1, -1))}, api.Agg{}, false},
		{"rows that do not fit", []api.Agg{of(most), of(1), of(1)}, api.Agg{}, false},
	} {
		if got, ok := agg.All(c.l...); got != c.w || ok != c.ok {
			t.Errorf("%s: All = %v, %v, want %v, %v", c.name, got, ok, c.w, c.ok)
		}
	}
}

func TestP6_2_Put(t *testing.T) {
	for _, c := range []struct {
		measures int
		a        api.Agg
		s        string
		e        api.Errno
	}{
		{0, of(1), "\x02", api.OK},
		{0, of(64), "\x80\x80", api.OK},
		{1, of(1, part(5, 5, 5)), "\x02\x0a", api.OK},
		{1, of(2, part(3, -2, 5)), "\x04\x06\x03\x0a", api.OK},
		{2, of(1, part(5, 5, 5), part(-2, -2, -2)), "\x02\x0a\x03", api.OK},
		{3, of(2, part(3, -2, 5), part(0, 0, 0), part(2, 1, 1)), "\x04\x06\x03\x0a\x00\x00\x00\x04\x02\x02", api.OK},
		{2, of(1, part(5, 5, 5)), "\x02\x0a\x00", api.OK},
		{0, of(1, part(5, 5, 5)), "", api.ErrArg},
		{1, of(0), "", api.ErrArg},
		{1, of(2, part(3, 5, -2)), "", api.ErrArg},
		{1, of(1, part(5, 5, 6)), "", api.ErrArg},
		{4, of(1), "", api.ErrArg},
		{-1, of(1), "", api.ErrArg},
		{math.MaxInt, of(1), "", api.ErrArg},
	} {
		if s, e := agg.Put(c.measures, c.a); s != c.s || e != c.e {
			t.Errorf("Put(%d, %v) = %x, %v, want %x, %v", c.measures, c.a, s, e, c.s, c.e)
		}
	}
}

func TestP6_2_Take(t *testing.T) {
	for _, c := range []struct {
		name     string
		s        string
		measures int
		a        api.Agg
		e        api.Errno
	}{
		{"one row", "\x02\x0a", 1, of(1, part(5, 5, 5)), api.OK},
		{"one row of three", "\x02\x0a\x03\x00", 3, of(1, part(5, 5, 5), part(-2, -2, -2)), api.OK},
		{"two rows", "\x04\x06\x03\x0a", 1, of(2, part(3, -2, 5)), api.OK},
		{"two rows of two", "\x04\x06\x03\x0a\x00\x00\x00", 2, of(2, part(3, -2, 5)), api.OK},
		{"no measures", "\x02", 0, of(1), api.OK},
		{"no measures, the most rows", "\xff\xff\xff\xff\xff\xff\xff\xff\xfe", 0, of(most), api.OK},
		{"nothing", "", 0, api.Agg{}, api.ErrForm},
		{"no rows", "\x00", 0, api.Agg{}, api.ErrForm},
		{"no rows of one", "\x00\x00", 1, api.Agg{}, api.ErrForm},
		{"rows below 0", "\x01", 0, api.Agg{}, api.ErrForm},
		{"rows below 0 of one", "\x03\x06\x03\x0a", 1, api.Agg{}, api.ErrForm},
		{"the least of rows", "\xff\xff\xff\xff\xff\xff\xff\xff\xff", 0, api.Agg{}, api.ErrForm},
		{"measures below 0", "\x02", -1, api.Agg{}, api.ErrForm},
		{"four measures", "\x02\x02\x02\x02\x02", 4, api.Agg{}, api.ErrForm},
		{"the most measures", "\x02", math.MaxInt, api.Agg{}, api.ErrForm},
		{"the least measures", "\x02", math.MinInt, api.Agg{}, api.ErrForm},
		{"Min above Max", "\x04\x06\x0a\x03", 1, api.Agg{}, api.ErrForm},
		{"Min above Max, later", "\x04\x06\x03\x0a\x02\x04\x02", 2, api.Agg{}, api.ErrForm},
		{"no sum", "\x02", 1, api.Agg{}, api.ErrForm},
		{"no Min", "\x04\x06", 1, api.Agg{}, api.ErrForm},
		{"no Max", "\x04\x06\x03", 1, api.Agg{}, api.ErrForm},
		{"more than all, one row", "\x02\x0a\x0a\x0a", 1, api.Agg{}, api.ErrForm},
		{"more than all, two rows", "\x04\x06\x03\x0a\x00", 1, api.Agg{}, api.ErrForm},
		{"a longer form of a count", "\x80\x02", 0, api.Agg{}, api.ErrForm},
		{"a longer form of a sum", "\x02\x80\x0a", 1, api.Agg{}, api.ErrForm},
	} {
		if a, e := agg.Take(c.s, c.measures); a != c.a || e != c.e {
			t.Errorf("%s: Take(%x, %d) = %v, %v, want %v, %v", c.name, c.s, c.measures, a, e, c.a, c.e)
		}
	}
}

func TestP6_2_Read(t *testing.T) {
	var a, b api.Agg
	e := take.All("x\x04\x06\x03\x0a\x02\x01yz", func(r *take.Reader) {
		r.Byte()
		a = agg.Read(r, 1)
		b = agg.Read(r, 1)
		if got := r.Fix(2); got != "yz" {
			t.Errorf("behind it stands %q", got)
		}
	})
	if e != api.OK || a != of(2, part(3, -2, 5)) || b != of(1, part(-1, -1, -1)) {
		t.Errorf("Read = %v, %v, and All = %v", a, b, e)
	}
	for _, c := range []struct {
		s        string
		measures int
	}{{"\x00", 0}, {"\x02", 4}, {"\x02", -1}, {"\x04\x06\x0a\x03", 1}} {
		past := false
		e := take.All(c.s, func(r *take.Reader) {
			agg.Read(r, c.measures)
			past = true
		})
		if e != api.ErrForm || past {
			t.Errorf("Read of %x, of %d: All = %v, and it went on: %v", c.s, c.measures, e, past)
		}
	}
}

func TestP6_2_ReadOutside(t *testing.T) {
	var kept *take.Reader
	take.All("\x02\x0a", func(r *take.Reader) { kept = r })
	for _, r := range []*take.Reader{nil, {}, kept} {
		for _, measures := range []int{math.MinInt, -1, 0, 1, 3, 4, math.MaxInt} {
			if a := agg.Read(r, measures); a != (api.Agg{}) {
				t.Errorf("Read outside of a reading = %v", a)
			}
		}
	}
}

func TestP6_2_Mean(t *testing.T) {
	for _, c := range []struct {
		name    string
		a       api.Agg
		measure int
		n       int64
		ok      bool
	}{
		{"one row", of(1, part(5, 5, 5)), 0, 5, true},
		{"exact", of(2, part(6, 1, 5)), 0, 3, true},
		{"down to 0", of(2, part(3, 1, 2)), 0, 1, true},
		{"up to 0", of(2, part(-3, -2, -1)), 0, -1, true},
		{"near 0", of(3, part(-2, -2, 0)), 0, 0, true},
		{"the second", of(2, part(6, 1, 5), part(8, 4, 4)), 1, 4, true},
		{"the third", of(4, part(6, 1, 5), part(8, 4, 4), part(-40, -10, -10)), 2, -10, true},
		{"one that is not there", of(2, part(6, 1, 5)), 2, 0, true},
		{"the least", of(1, part(least, least, least)), 0, least, true},
		{"the greatest, by the most", of(most, part(most, 1, 1)), 0, 1, true},
		{"below the measures", of(2, part(6, 1, 5)), -1, 0, false},
		{"above the measures", of(2, part(6, 1, 5)), 3, 0, false},
		{"far above", of(2, part(6, 1, 5)), math.MaxInt, 0, false},
		{"far below", of(2, part(6, 1, 5)), math.MinInt, 0, false},
		{"no rows", of(0, part(6, 1, 5)), 0, 0, false},
		{"rows below 0", of(-1, part(least, 1, 5)), 0, 0, false},
	} {
		if n, ok := agg.Mean(c.a, c.measure); n != c.n || ok != c.ok {
			t.Errorf("%s: Mean = %d, %v, want %d, %v", c.name, n, ok, c.n, c.ok)
		}
	}
}

// some are values whose sums fit, in whichever order.
func some(r *rand.Rand) [][3]int64 {
	const much, little = most/2 - 1000, least/2 + 1000
	l := [][3]int64{{much, little, 0}, {much, little, -1}, {little, much, 1}}
	for range 7 {
		l = append(l, [3]int64{r.Int63n(9) - 4, r.Int63n(100), -r.Int63n(100)})
	}
	return l
}

// rows is the aggregate of rows, told at once.
func rows(l [][3]int64) api.Agg {
	a := api.Agg{Count: int64(len(l))}
	for i := range a.M {
		sum, p := new(big.Int), api.Part{Min: most, Max: least}
		for _, v := range l {
			sum.Add(sum, big.NewInt(v[i]))
			p.Min, p.Max = min(p.Min, v[i]), max(p.Max, v[i])
		}
		p.Sum = sum.Int64()
		a.M[i] = p
	}
	return a
}

// grouped joins aggregates in groups that are cut anywhere.
func grouped(t *testing.T, r *rand.Rand, l []api.Agg) api.Agg {
	if len(l) == 1 {
		return l[0]
	}
	cut := 1 + r.Intn(len(l)-1)
	a, ok := agg.Join(grouped(t, r, l[:cut]), grouped(t, r, l[cut:]))
	if !ok {
		t.Error("a sum that fits is told not to")
	}
	return a
}

func TestP6_3_AnyOrder(t *testing.T) {
	r := rand.New(rand.NewSource(6))
	values := some(r)
	want := rows(values)
	var l []api.Agg
	for _, v := range values {
		a, _ := agg.Of(v[:]...)
		l = append(l, a)
	}
	for range 200 {
		r.Shuffle(len(l), func(i, j int) { l[i], l[j] = l[j], l[i] })
		if a, ok := agg.All(l...); a != want || !ok {
			t.Fatalf("All = %v, %v, want %v", a, ok, want)
		}
		if a := grouped(t, r, l); a != want {
			t.Fatalf("in groups: %v, want %v", a, want)
		}
	}
}

func TestP6_3_Back(t *testing.T) {
	r := rand.New(rand.NewSource(7))
	for i := range 500 {
		measures := i % 4
		a := api.Agg{Count: 1 + r.Int63()>>(i%63)}
		if i%3 == 0 {
			a.Count = 1
		}
		for m := range measures {
			x, y, z := int64(r.Uint64())>>(i%63), int64(r.Uint64())>>(i%50), int64(r.Uint64())
			a.M[m] = part(z, min(x, y), max(x, y))
			if a.Count == 1 {
				a.M[m] = part(z, z, z)
			}
		}
		s, e := agg.Put(measures, a)
		if e != api.OK {
			t.Fatalf("Put(%d, %v) = %v", measures, a, e)
		}
		if got, e := agg.Take(s, measures); got != a || e != api.OK {
			t.Errorf("Take of Put(%d, %v) = %v, %v", measures, a, got, e)
		}
		if got, e := agg.Take(s+"\x00", measures); got != (api.Agg{}) || e != api.ErrForm {
			t.Errorf("Take of Put and a byte more = %v, %v", got, e)
		}
	}
}
