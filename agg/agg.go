// Package agg is layer 6: see ../../shared/doc/06-agg.md.
package agg

import (
	"strings"

	"pithead/api"
	"pithead/exact"
	"pithead/take"
)

// fits tells whether there may be so many measures.
func fits(measures int) bool { return measures >= 0 && measures <= api.MaxMeasures }

// May tells whether an aggregate of so many measures may be.
func May(measures int, a api.Agg) bool {
	if !fits(measures) || a.Count < 1 {
		return false
	}
	for i, p := range a.M {
		if !mayPart(p, i < measures, a.Count == 1) {
			return false
		}
	}
	return true
}

// mayPart tells it of one part: of a measure that there is, or not; of one row, or of several.
func mayPart(p api.Part, there, one bool) bool {
	switch {
	case !there:
		return p == api.Part{}
	case one:
		return p.Min == p.Sum && p.Max == p.Sum
	}
	return p.Min <= p.Max
}

// Of is the aggregate of one row's values.
func Of(values ...int64) (api.Agg, api.Errno) {
	if len(values) > api.MaxMeasures {
		return api.Agg{}, api.ErrLimit
	}
	a := api.Agg{Count: 1}
	for i, v := range values {
		a.M[i] = api.Part{Sum: v, Min: v, Max: v}
	}
	return a, api.OK
}

// Join is two aggregates together: one of no rows adds nothing; false: a sum does not fit.
func Join(a, b api.Agg) (api.Agg, bool) {
	if a.Count == 0 {
		return b, true
	}
	if b.Count == 0 {
		return a, true
	}
	var both api.Agg
	var ok bool
	if both.Count, ok = exact.Add(a.Count, b.Count); !ok {
		return api.Agg{}, false
	}
	for i := range api.MaxMeasures {
		if both.M[i], ok = joinPart(a.M[i], b.M[i]); !ok {
			return api.Agg{}, false
		}
	}
	return both, true
}

func joinPart(a, b api.Part) (api.Part, bool) {
	sum, ok := exact.Add(a.Sum, b.Sum)
	return api.Part{Sum: sum, Min: min(a.Min, b.Min), Max: max(a.Max, b.Max)}, ok
}

// All is many together; false: a sum on the way does not fit.
func All(l ...api.Agg) (api.Agg, bool) {
	all, ok := api.Agg{}, true
	for _, a := range l {
		if all, ok = Join(all, a); !ok {
			return api.Agg{}, false
		}
	}
	return all, true
}

// Put is the bytes of an aggregate of so many measures.
func Put(measures int, a api.Agg) (string, api.Errno) {
	if !May(measures, a) {
		return "", api.ErrArg
	}
	var b strings.Builder
	b.WriteString(take.PutInt(a.Count))
	for _, p := range a.M[:measures] {
		b.WriteString(take.PutInt(p.Sum))
		if a.Count > 1 {
			b.WriteString(take.PutInt(p.Min))
			b.WriteString(take.PutInt(p.Max))
		}
	}
	return b.String(), api.OK
}

// Read reads one.
func Read(r *take.Reader, measures int) api.Agg {
	a := api.Agg{Count: r.Int()}
	if !fits(measures) || a.Count < 1 {
		r.Want(false, api.ErrForm)
		return api.Agg{} // of a Reader outside of its reading
	}
	for i := range measures {
		a.M[i] = readPart(r, a.Count == 1)
	}
	r.Want(May(measures, a), api.ErrForm)
	return a
}

func readPart(r *take.Reader, one bool) api.Part {
	sum := r.Int()
	if one {
		return api.Part{Sum: sum, Min: sum, Max: sum}
	}
	least := r.Int()
	return api.Part{Sum: sum, Min: least, Max: r.Int()}
}

// Take is the aggregate of bytes.
func Take(s string, measures int) (api.Agg, api.Errno) {
	var a api.Agg
	e := take.All(s, func(r *take.Reader) { a = Read(r, measures) })
	if e != api.OK {
		return api.Agg{}, e
	}
	return a, api.OK
}

// Mean is the sum by the count, rounded towards 0; false: there is no such measure, or no row.
func Mean(a api.Agg, measure int) (int64, bool) {
	if measure < 0 || measure >= api.MaxMeasures || a.Count < 1 {
		return 0, false
	}
	return a.M[measure].Sum / a.Count, true
}
