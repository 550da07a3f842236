package exact_test

import (
	"math"
	"math/big"
	"math/rand"
	"slices"
	"testing"

	"pithead/api"
	"pithead/exact"
)

func values() []int64 {
	const most, least = math.MaxInt64, math.MinInt64
	l := []int64{0, 1, -1, 2, -2, 7, -7, most, most - 1, least, least + 1, most / 2, most/2 + 1, most/2 + 2, least / 2, least/2 - 1, least/2 + 1}
	r := rand.New(rand.NewSource(4))
	for i := range 40 {
		l = append(l, int64(r.Uint64())>>(i%63))
	}
	return l
}

// fit is a number, and true; 0, and false, if it is no int64.
func fit(n *big.Int) (int64, bool) {
	if !n.IsInt64() {
		return 0, false
	}
	return n.Int64(), true
}

func large(n int64) *big.Int { return big.NewInt(n) }

func TestP3_1_AddSub(t *testing.T) {
	for _, a := range values() {
		for _, b := range values() {
			n, fits := fit(new(big.Int).Add(large(a), large(b)))
			if got, ok := exact.Add(a, b); got != n || ok != fits {
				t.Errorf("Add(%d, %d) = %d, %v, want %d, %v", a, b, got, ok, n, fits)
			}
			n, fits = fit(new(big.Int).Sub(large(a), large(b)))
			if got, ok := exact.Sub(a, b); got != n || ok != fits {
				t.Errorf("Sub(%d, %d) = %d, %v, want %d, %v", a, b, got, ok, n, fits)
			}
		}
	}
}

func TestP3_1_Sum(t *testing.T) {
	const most, least = math.MaxInt64, math.MinInt64
	for _, c := range []struct {
		l  []int64
		n  int64
		ok bool
	}{
		{nil, 0, true},
		{[]int64{5}, 5, true},
		{[]int64{least}, least, true},
		{[]int64{1, -2, 3, 40}, 42, true},
		{[]int64{most, -1, 1}, most, true},
		{[]int64{-1, most, 1}, most, true},
		{[]int64{most, 1, -1}, 0, false},
		{[]int64{least, -1, 1}, 0, false},
		{[]int64{most, 1}, 0, false},
		{[]int64{1, 2, most}, 0, false},
		{[]int64{most, most, most, 3}, 0, false},
		{[]int64{least, least}, 0, false},
		{[]int64{most, 1, 5, 7}, 0, false},
	} {
		before := slices.Clone(c.l)
		if n, ok := exact.Sum(c.l...); n != c.n || ok != c.ok {
			t.Errorf("Sum(%v) = %d, %v, want %d, %v", c.l, n, ok, c.n, c.ok)
		}
		if !slices.Equal(before, c.l) {
			t.Errorf("Sum has changed %v", before)
		}
	}
}

// wantTotal is a total of two numbers; none, and false, unless both fit.
func wantTotal(pos, neg *big.Int) (api.Total, bool) {
	p, pok := fit(pos)
	n, nok := fit(neg)
	if !pok || !nok {
		return api.Total{}, false
	}
	return api.Total{Pos: p, Neg: n}, true
}

func totals() []api.Total {
	var l []api.Total
	few := []int64{0, 1, -1, 7, -3, math.MaxInt64, math.MaxInt64 - 1, math.MinInt64, math.MinInt64 + 1}
	for _, p := range few {
		for _, n := range few {
			l = append(l, api.Total{Pos: p, Neg: n})
		}
	}
	return l
}

func TestP3_2_Grow(t *testing.T) {
	for _, x := range totals() {
		for _, n := range values() {
			pos, neg := large(x.Pos), large(x.Neg)
			if n >= 0 {
				pos.Add(pos, large(n))
			} else {
				neg.Add(neg, large(n))
			}
			want, fits := wantTotal(pos, neg)
			if got, ok := exact.Grow(x, n); got != want || ok != fits {
				t.Errorf("Grow(%v, %d) = %v, %v, want %v, %v", x, n, got, ok, want, fits)
			}
		}
	}
}

func TestP3_2_Join(t *testing.T) {
	for _, a := range totals() {
		for _, b := range totals() {
			pos := new(big.Int).Add(large(a.Pos), large(b.Pos))
			neg := new(big.Int).Add(large(a.Neg), large(b.Neg))
			want, fits := wantTotal(pos, neg)
			if got, ok := exact.Join(a, b); got != want || ok != fits {
				t.Errorf("Join(%v, %v) = %v, %v, want %v, %v", a, b, got, ok, want, fits)
			}
		}
	}
}

func TestP3_2_Of(t *testing.T) {
	const most, least = math.MaxInt64, math.MinInt64
	for _, c := range []struct {
		l  []int64
		t  api.Total
		ok bool
	}{
		{nil, api.Total{}, true},
		{[]int64{0}, api.Total{}, true},
		{[]int64{5, -3, 2}, api.Total{Pos: 7, Neg: -3}, true},
		{[]int64{most, least}, api.Total{Pos: most, Neg: least}, true},
		{[]int64{most, least, 0}, api.Total{Pos: most, Neg: least}, true},
		{[]int64{most, 1}, api.Total{}, false},
		{[]int64{most, -1, 1}, api.Total{}, false},
		{[]int64{-1, least}, api.Total{}, false},
		{[]int64{1, least, -1, 1}, api.Total{}, false},
	} {
		if got, ok := exact.Of(c.l...); got != c.t || ok != c.ok {
			t.Errorf("Of(%v) = %v, %v, want %v, %v", c.l, got, ok, c.t, c.ok)
		}
	}
}

func TestP3_2_Holds(t *testing.T) {
	const most, least = math.MaxInt64, math.MinInt64
	for _, c := range []struct {
		t  api.Total
		n  int64
		is bool
	}{
		{api.Total{Pos: 7, Neg: -3}, 7, true},
		{api.Total{Pos: 7, Neg: -3}, 8, false},
		{api.Total{Pos: 7, Neg: -3}, -3, true},
		{api.Total{Pos: 7, Neg: -3}, -4, false},
		{api.Total{Pos: 7, Neg: -3}, 0, true},
		{api.Total{}, 0, true},
		{api.Total{}, 1, false},
		{api.Total{}, -1, false},
		{api.Total{Pos: most, Neg: least}, most, true},
		{api.Total{Pos: most, Neg: least}, least, true},
		{api.Total{Pos: 1, Neg: 2}, 1, false},
		{api.Total{Pos: 5, Neg: 2}, 1, false},
		{api.Total{Pos: 5, Neg: 2}, 2, true},
		{api.Total{Pos: -2, Neg: -5}, -1, false},
		{api.Total{Pos: -2, Neg: -5}, -2, true},
	} {
		if got := exact.Holds(c.t, c.n); got != c.is {
			t.Errorf("Holds(%v, %d) = %v", c.t, c.n, got)
		}
	}
}

func TestP3_2_May(t *testing.T) {
	for _, x := range totals() {
		if got := exact.May(x); got != (x.Pos >= 0 && x.Neg <= 0) {
			t.Errorf("May(%v) = %v", x, got)
		}
	}
}

// orders goes through all orders of values.
func orders(l []int64, at int, each func(l []int64)) {
	if at == len(l) {
		each(l)
		return
	}
	for i := at; i < len(l); i++ {
		l[at], l[i] = l[i], l[at]
		orders(l, at+1, each)
		l[at], l[i] = l[i], l[at]
	}
}

func TestP3_3(t *testing.T) {
	const most, least = math.MaxInt64, math.MinInt64
	for _, l := range [][]int64{
		{5, -3, 2, 0},
		{most, least},
		{most - 3, 1, 2, least + 4, -4},
		{most / 2, most / 2, 1, least / 2, least / 2},
		{-1, -1, -1, least + 3},
	} {
		x, ok := exact.Of(l...)
		if !ok || !exact.May(x) {
			t.Errorf("Of(%v) = %v, %v", l, x, ok)
		}
		orders(slices.Clone(l), 0, func(l []int64) {
			if y, ok := exact.Of(l...); !ok || y != x {
				t.Errorf("Of(%v) = %v, %v, want %v", l, y, ok, x)
			}
			for some := range len(l) + 1 {
				if n, ok := exact.Sum(l[:some]...); !ok || !exact.Holds(x, n) {
					t.Errorf("Sum(%v) = %d, %v, within %v", l[:some], n, ok, x)
				}
			}
		})
	}
}
