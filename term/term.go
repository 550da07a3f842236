// Package term is layer 5: see ../../shared/doc/05-term.md.
package term

import (
	"sort"
	"strings"

	"pithead/api"
	"pithead/take"
)

// Check tells whether a text may be a member.
func Check(s string) api.Errno {
	if len(s) < 1 || len(s) > api.MaxTerm {
		return api.ErrArg
	}
	return api.OK
}

// Name tells whether a text may name a dimension, a tier, a measure: small letters, digits and _.
func Name(s string) api.Errno {
	if len(s) < 1 || len(s) > api.MaxName {
		return api.ErrArg
	}
	for i := range len(s) {
		if !inName(s[i]) {
			return api.ErrArg
		}
	}
	return api.OK
}

func inName(b byte) bool {
	return b >= 'a' && b <= 'z' || b >= '0' && b <= '9' || b == '_'
}

// Row tells whether texts are members that rise.
func Row(l []string) api.Errno {
	ahead := ""
	for _, s := range l {
		if e := Check(s); e != api.OK {
			return e
		}
		if s <= ahead {
			return api.ErrOrder
		}
		ahead = s
	}
	return api.OK
}

// Find is a text's place in a row, or that where it would stand.
func Find(l []string, s string) (int, bool) {
	at := sort.Search(len(l), func(i int) bool { return l[i] >= s })
	return at, at < len(l) && l[at] == s
}

// Between is from which place on, and up to which, a row's texts from one to another one stand.
func Between(l []string, lo, hi string) (from, to int) {
	from, _ = Find(l, lo)
	to = sort.Search(len(l), func(i int) bool { return l[i] > hi })
	return min(from, to), to
}

// shared is how many bytes a text begins with as another one.
func shared(a, b string) int {
	n := 0
	for n < len(a) && n < len(b) && a[n] == b[n] {
		n++
	}
	return n
}

// Put is a row's bytes: of each how much of the one ahead it begins with, and the rest.
func Put(l []string) (string, api.Errno) {
	if e := Row(l); e != api.OK {
		return "", e
	}
	var b strings.Builder
	b.WriteString(take.PutNum(len(l)))
	ahead := ""
	for _, s := range l {
		n := shared(ahead, s)
		b.WriteString(take.PutNum(n))
		b.WriteString(take.PutText(s[n:]))
		ahead = s
	}
	return b.String(), api.OK
}

// Read reads a row of at most so many.
func Read(r *take.Reader, most int) []string {
	var l []string
	ahead := ""
	for range r.Num(most) {
		n := r.Num(len(ahead))
		s := ahead[:n] + r.Text(api.MaxTerm)
		r.Want(Check(s) == api.OK && s > ahead && shared(ahead, s) == n, api.ErrForm)
		l = append(l, s)
		ahead = s
	}
	return l
}

// Take is the row of which bytes are the Put, of at most so many.
func Take(s string, most int) ([]string, api.Errno) {
	var l []string
	e := take.All(s, func(r *take.Reader) { l = Read(r, most) })
	if e != api.OK {
		return nil, e
	}
	return l, api.OK
}
