// Package exact is layer 3: see ../../shared/doc/03-exact.md.
package exact

import "pithead/api"

// Add is a sum; false: it does not fit.
func Add(a, b int64) (int64, bool) {
	sum := a + b
	if (sum < a) != (b < 0) {
		return 0, false
	}
	return sum, true
}

// Sub is a difference; false: it does not fit.
func Sub(a, b int64) (int64, bool) {
	rest := a - b
	if (rest > a) != (b < 0) {
		return 0, false
	}
	return rest, true
}

// Sum is the sum of numbers, one by one; false: on the way it does not fit.
func Sum(l ...int64) (int64, bool) {
	sum, ok := int64(0), true
	for _, n := range l {
		if sum, ok = Add(sum, n); !ok {
			return 0, false
		}
	}
	return sum, true
}

// Grow is a total with a value more; false: it does not fit.
func Grow(t api.Total, n int64) (api.Total, bool) {
	if n < 0 {
		return Join(t, api.Total{Neg: n})
	}
	return Join(t, api.Total{Pos: n})
}

// Join is two totals together; false: they do not fit.
func Join(a, b api.Total) (api.Total, bool) {
	pos, posFits := Add(a.Pos, b.Pos)
	neg, negFits := Add(a.Neg, b.Neg)
	if !posFits || !negFits {
		return api.Total{}, false
	}
	return api.Total{Pos: pos, Neg: neg}, true
}

// Of is the total of values; false: it does not fit.
func Of(l ...int64) (api.Total, bool) {
	t, ok := api.Total{}, true
	for _, n := range l {
		if t, ok = Grow(t, n); !ok {
			return api.Total{}, false
		}
	}
	return t, true
}

// Holds tells whether a sum of some of a total's values may be a number.
func Holds(t api.Total, n int64) bool { return t.Neg <= n && n <= t.Pos }

// May tells whether a total may be.
func May(t api.Total) bool { return t.Pos >= 0 && t.Neg <= 0 }
