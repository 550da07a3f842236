package dict_test

import (
	"fmt"
	"math"
	"math/rand"
	"slices"
	"strings"
	"testing"

	"pithead/api"
	"pithead/dict"
	"pithead/term"
)

const sixteen = "0123456789abcdef"

// made is a dictionary of texts that may be.
func made(t *testing.T, l ...string) *dict.Dict {
	t.Helper()
	d, e := dict.New(l...)
	if d == nil || e != api.OK {
		t.Fatalf("New(%q) = %v, %v", l, d, e)
	}
	return d
}

// many are so many unlike texts, which rise.
func many(n int) []string {
	l := make([]string, n)
	for i := range l {
		l[i] = fmt.Sprintf("m%05d", i)
	}
	return l
}

// mixed are a list's texts in another order.
func mixed(l []string) []string {
	m := slices.Clone(l)
	rand.New(rand.NewSource(14)).Shuffle(len(m), func(i, j int) { m[i], m[j] = m[j], m[i] })
	return m
}

// rows are lists of texts, in whatever order, some of them more than once.
func rows() [][]string {
	r := rand.New(rand.NewSource(141))
	l := [][]string{nil, {"m"}, {"a", "c", "e"}, {"b", "a", "b"}, {"\x00", "\xff\xff", "\xff", "\x00\x00"}, {"aa", "a", "ab", "b", "aaa"}}
	for n := range 20 {
		var row []string
		for range n * 5 {
			b := make([]byte, 1+r.Intn(5))
			for i := range b {
				b[i] = "ab\x00\xff"[r.Intn(4)]
			}
			row = append(row, string(b))
		}
		l = append(l, row)
	}
	return l
}

// plain is the same texts, rising, each once.
func plain(l []string) []string {
	m := slices.Clone(l)
	slices.Sort(m)
	return slices.Compact(m)
}

// near are a list's texts, and others round about them.
func near(l []string) []string {
	all := []string{"", "a", "b", "zz", "\xff\xff\xff\xff\xff\xff\xff\xff", strings.Repeat("a", 40)}
	for _, s := range l {
		all = append(all, s, s+"\x00", s[:len(s)-1], s+"\xff", s[:1])
	}
	return all
}

func TestP14_1_New(t *testing.T) {
	for _, c := range []struct {
		name    string
		l, want []string
		e       api.Errno
	}{
		{"none", nil, nil, api.OK},
		{"an empty list", []string{}, nil, api.OK},
		{"one", []string{"a"}, []string{"a"}, api.OK},
		{"one twice", []string{"b", "a", "b"}, []string{"a", "b"}, api.OK},
		{"rising", []string{"a", "b", "c"}, []string{"a", "b", "c"}, api.OK},
		{"falling", []string{"c", "b", "a"}, []string{"a", "b", "c"}, api.OK},
		{"by their bytes", []string{"a", "\xff", "Z", "ab", "a\x00", "é", "\x00"}, []string{"\x00", "Z", "a", "a\x00", "ab", "é", "\xff"}, api.OK},
		{"the longest", []string{sixteen, sixteen[:15]}, []string{sixteen[:15], sixteen}, api.OK},
		{"an empty text", []string{""}, nil, api.ErrArg},
		{"an empty text behind others", []string{"a", "b", ""}, nil, api.ErrArg},
		{"too long a text", []string{"a", sixteen + "g", "b"}, nil, api.ErrArg},
		{"200", mixed(many(200)), many(200), api.OK},
		{"200, each of them twice", mixed(append(many(200), many(200)...)), many(200), api.OK},
		{"201", mixed(many(201)), nil, api.ErrLimit},
		{"201, the last one far behind", append(append(many(200), many(200)...), "x"), nil, api.ErrLimit},
		{"5000", mixed(many(5000)), nil, api.ErrLimit},
		{"201, and then a text that is none", append(many(201), ""), nil, api.ErrArg},
		{"5000, and then one that is too long", append(many(5000), sixteen+"g"), nil, api.ErrArg},
	} {
		before := slices.Clone(c.l)
		d, e := dict.New(c.l...)
		if e != c.e || (d == nil) != (c.e != api.OK) {
			t.Errorf("%s: New = %v, %v, want %v", c.name, d, e, c.e)
			continue
		}
		if !slices.Equal(before, c.l) {
			t.Errorf("%s: New has changed %q", c.name, before)
		}
		if d.Len() != len(c.want) || !slices.Equal(d.Terms(), c.want) {
			t.Errorf("%s: %d, %q, want %q", c.name, d.Len(), d.Terms(), c.want)
		}
	}
}

// TestP14_1_NewKeepsNothing: what becomes of the list behind New changes no dictionary, nor does what stands behind its end.
func TestP14_1_NewKeepsNothing(t *testing.T) {
	l := []string{"b", "a", "c", "", "z"}
	d := made(t, l[:3]...)
	if !slices.Equal(l, []string{"b", "a", "c", "", "z"}) {
		t.Errorf("New has changed what stands behind the list: %q", l)
	}
	l[0], l[1], l[2] = "x", "y", "z"
	if !slices.Equal(d.Terms(), []string{"a", "b", "c"}) {
		t.Errorf("Terms = %q behind a change of the list", d.Terms())
	}
}

func TestP14_1_TermsIsNew(t *testing.T) {
	d := made(t, "a", "b", "c")
	l := d.Terms()
	l = l[:cap(l)]
	for i := range l {
		l[i] = "zz"
	}
	if again := d.Terms(); !slices.Equal(again, []string{"a", "b", "c"}) {
		t.Errorf("Terms = %q behind a change of an earlier answer", again)
	}
	if i, ok := d.Id("b"); i != 1 || !ok {
		t.Errorf("Id = %d, %v behind it", i, ok)
	}
}

func TestP14_1_Id(t *testing.T) {
	for _, l := range rows() {
		d, all := made(t, l...), plain(l)
		for _, s := range near(l) {
			want := max(slices.Index(all, s), 0)
			if i, ok := d.Id(s); i != want || ok != slices.Contains(all, s) {
				t.Errorf("Id(%q) of %q = %d, %v, want %d", s, all, i, ok, want)
			}
		}
	}
}

func TestP14_1_Ids(t *testing.T) {
	d := made(t, "d", "b", "a", "c")
	for _, c := range []struct {
		l    []string
		want []int
		e    api.Errno
	}{
		{nil, nil, api.OK},
		{[]string{}, nil, api.OK},
		{[]string{"c"}, []int{2}, api.OK},
		{[]string{"d", "a", "b"}, []int{3, 0, 1}, api.OK},
		{[]string{"b", "b", "a", "b"}, []int{1, 1, 0, 1}, api.OK},
		{[]string{"x"}, nil, api.ErrMember},
		{[]string{""}, nil, api.ErrMember},
		{[]string{"x", "a"}, nil, api.ErrMember},
		{[]string{"a", "b", "x"}, nil, api.ErrMember},
		{[]string{"a", sixteen + "g", "b"}, nil, api.ErrMember},
	} {
		before := slices.Clone(c.l)
		l, e := d.Ids(c.l...)
		if !slices.Equal(l, c.want) || e != c.e {
			t.Errorf("Ids(%q) = %v, %v, want %v, %v", c.l, l, e, c.want, c.e)
		}
		if !slices.Equal(before, c.l) {
			t.Errorf("Ids has changed %q", before)
		}
	}
	none := made(t)
	if l, e := none.Ids(); len(l) != 0 || e != api.OK {
		t.Errorf("Ids of none, of an empty one = %v, %v", l, e)
	}
	if l, e := none.Ids("a"); len(l) != 0 || e != api.ErrMember {
		t.Errorf("Ids of an empty one = %v, %v", l, e)
	}
}

func TestP14_1_Term(t *testing.T) {
	d := made(t, "b", "a", "c")
	for i, want := range []string{"a", "b", "c"} {
		if s, ok := d.Term(i); s != want || !ok {
			t.Errorf("Term(%d) = %q, %v", i, s, ok)
		}
	}
	for _, i := range []int{-1, 3, 4, math.MinInt, math.MaxInt} {
		if s, ok := d.Term(i); s != "" || ok {
			t.Errorf("Term(%d) = %q, %v", i, s, ok)
		}
	}
	if s, ok := made(t).Term(0); s != "" || ok {
		t.Errorf("Term(0) of an empty one = %q, %v", s, ok)
	}
}

func TestP14_1_Between(t *testing.T) {
	d := made(t, "e", "a", "c")
	for _, c := range []struct {
		lo, hi   string
		from, to int
	}{
		{"a", "e", 0, 3}, {"c", "c", 1, 2}, {"b", "d", 1, 2}, {"", "zz", 0, 3},
		{"d", "b", 1, 1}, {"e", "a", 1, 1}, {"d", "d", 2, 2}, {"", "", 0, 0}, {"f", "g", 3, 3}, {"z", "", 0, 0},
	} {
		if from, to := d.Between(c.lo, c.hi); from != c.from || to != c.to {
			t.Errorf("Between(%q, %q) = %d, %d, want %d, %d", c.lo, c.hi, from, to, c.from, c.to)
		}
	}
	for _, l := range rows()[:12] {
		d, all := made(t, l...), plain(l)
		for _, lo := range near(all) {
			for _, hi := range near(all) {
				wantFrom, wantTo := term.Between(all, lo, hi)
				if from, to := d.Between(lo, hi); from != wantFrom || to != wantTo {
					t.Errorf("Between(%q, %q) of %q = %d, %d, want %d, %d", lo, hi, all, from, to, wantFrom, wantTo)
				}
			}
		}
	}
}

func TestP14_1_Begin(t *testing.T) {
	d := made(t, "ab", "abc", "abd", "ac", "b", "b\xff", "b\xff\xff", "c")
	for _, c := range []struct {
		s        string
		from, to int
	}{
		{"", 0, 8}, {"a", 0, 4}, {"ab", 0, 3}, {"abc", 1, 2}, {"abd", 2, 3}, {"ac", 3, 4}, {"b", 4, 7}, {"b\xff", 5, 7}, {"c", 7, 8},
		{"A", 0, 0}, {"aa", 0, 0}, {"abb", 1, 1}, {"abcd", 2, 2}, {"abz", 3, 3}, {"b\x00", 5, 5}, {"b\xff\xff\xff", 7, 7}, {"bb", 5, 5}, {"d", 8, 8},
		{"\xff", 8, 8}, {"a" + strings.Repeat("z", 99), 4, 4},
	} {
		if from, to := d.Begin(c.s); from != c.from || to != c.to {
			t.Errorf("Begin(%q) = %d, %d, want %d, %d", c.s, from, to, c.from, c.to)
		}
	}
	if from, to := made(t).Begin("a"); from != 0 || to != 0 {
		t.Errorf("Begin of an empty one = %d, %d", from, to)
	}
	for _, l := range rows() {
		d, all := made(t, l...), plain(l)
		for _, s := range near(all) {
			less, begin := 0, 0
			for _, x := range all {
				if x < s {
					less++
				}
				if strings.HasPrefix(x, s) {
					begin++
				}
			}
			if from, to := d.Begin(s); from != less || to != less+begin {
				t.Errorf("Begin(%q) of %q = %d, %d, want %d, %d", s, all, from, to, less, less+begin)
			}
		}
	}
}

// TestP14_1_NoDict: of nil, and of one that no call made, there is nothing; an empty one that New made is one.
func TestP14_1_NoDict(t *testing.T) {
	for name, d := range map[string]*dict.Dict{"nil": nil, "a plain one": {}} {
		if d.Len() != 0 || len(d.Terms()) != 0 {
			t.Errorf("%s: %d, %q", name, d.Len(), d.Terms())
		}
		for _, s := range []string{"", "a"} {
			if i, ok := d.Id(s); i != 0 || ok {
				t.Errorf("%s: Id = %d, %v", name, i, ok)
			}
			if from, to := d.Begin(s); from != 0 || to != 0 {
				t.Errorf("%s: Begin = %d, %d", name, from, to)
			}
			if from, to := d.Between("", s); from != 0 || to != 0 {
				t.Errorf("%s: Between = %d, %d", name, from, to)
			}
			if l, e := d.Ids(s); len(l) != 0 || e != api.ErrNil {
				t.Errorf("%s: Ids = %v, %v", name, l, e)
			}
		}
		if l, e := d.Ids(); len(l) != 0 || e != api.ErrNil {
			t.Errorf("%s: Ids of none = %v, %v", name, l, e)
		}
		for _, i := range []int{-1, 0, 1} {
			if s, ok := d.Term(i); s != "" || ok {
				t.Errorf("%s: Term = %q, %v", name, s, ok)
			}
		}
	}
}

func TestP14_1_Apart(t *testing.T) {
	a, b := made(t, "a", "b"), made(t, "c")
	if !slices.Equal(a.Terms(), []string{"a", "b"}) || !slices.Equal(b.Terms(), []string{"c"}) {
		t.Errorf("two dictionaries: %q, %q", a.Terms(), b.Terms())
	}
}

func TestP14_2_Join(t *testing.T) {
	for _, c := range []struct {
		name       string
		a, b, both []string
		x, y       []int
	}{
		{"none", nil, nil, nil, nil, nil},
		{"none and some", nil, []string{"b", "a"}, []string{"a", "b"}, nil, []int{0, 1}},
		{"some and none", []string{"b", "a"}, nil, []string{"a", "b"}, []int{0, 1}, nil},
		{"the same", []string{"a", "b"}, []string{"b", "a"}, []string{"a", "b"}, []int{0, 1}, []int{0, 1}},
		{"in turn", []string{"a", "c", "e"}, []string{"b", "d"}, []string{"a", "b", "c", "d", "e"}, []int{0, 2, 4}, []int{1, 3}},
		{"some in both", []string{"a", "c", "d"}, []string{"b", "c"}, []string{"a", "b", "c", "d"}, []int{0, 2, 3}, []int{1, 2}},
		{"one behind the other", []string{"x", "y"}, []string{"a", "b"}, []string{"a", "b", "x", "y"}, []int{2, 3}, []int{0, 1}},
	} {
		a, b := made(t, c.a...), made(t, c.b...)
		d, x, y, e := dict.Join(a, b)
		if d == nil || e != api.OK {
			t.Errorf("%s: Join = %v, %v", c.name, d, e)
			continue
		}
		if !slices.Equal(d.Terms(), c.both) || !slices.Equal(x, c.x) || !slices.Equal(y, c.y) {
			t.Errorf("%s: Join = %q, %v, %v, want %q, %v, %v", c.name, d.Terms(), x, y, c.both, c.x, c.y)
		}
		if !slices.Equal(a.Terms(), plain(c.a)) || !slices.Equal(b.Terms(), plain(c.b)) {
			t.Errorf("%s: Join has changed %q, %q", c.name, a.Terms(), b.Terms())
		}
	}
}

func TestP14_2_JoinLimit(t *testing.T) {
	l := many(201)
	if d, x, y, e := dict.Join(made(t, l[:120]...), made(t, l[100:200]...)); e != api.OK || d.Len() != 200 || len(x) != 120 || len(y) != 100 {
		t.Errorf("Join to 200 = %v, %d, %d, %v", d, len(x), len(y), e)
	}
	if d, x, y, e := dict.Join(made(t, l[:200]...), made(t, l[:200]...)); e != api.OK || d.Len() != 200 || len(x) != 200 || len(y) != 200 {
		t.Errorf("Join of 200 with themselves = %v, %d, %d, %v", d, len(x), len(y), e)
	}
	for _, at := range []int{1, 100, 200} {
		if d, x, y, e := dict.Join(made(t, l[:at]...), made(t, l[at:]...)); d != nil || len(x) != 0 || len(y) != 0 || e != api.ErrLimit {
			t.Errorf("Join to 201 = %v, %v, %v, %v", d, x, y, e)
		}
	}
}

// TestP14_2_JoinOfNone: nil has no members, nor has one that no call made.
func TestP14_2_JoinOfNone(t *testing.T) {
	some := made(t, "b", "a")
	for name, none := range map[string]*dict.Dict{"nil": nil, "a plain one": {}, "an empty one": made(t)} {
		if d, x, y, e := dict.Join(none, some); e != api.OK || !slices.Equal(d.Terms(), []string{"a", "b"}) || len(x) != 0 || !slices.Equal(y, []int{0, 1}) {
			t.Errorf("%s and some: %v, %v, %v, %v", name, d, x, y, e)
		}
		if d, x, y, e := dict.Join(some, none); e != api.OK || !slices.Equal(d.Terms(), []string{"a", "b"}) || !slices.Equal(x, []int{0, 1}) || len(y) != 0 {
			t.Errorf("some and %s: %v, %v, %v, %v", name, d, x, y, e)
		}
		d, x, y, e := dict.Join(none, nil)
		if d == nil || e != api.OK || d.Len() != 0 || len(x) != 0 || len(y) != 0 {
			t.Errorf("%s and nil: %v, %v, %v, %v", name, d, x, y, e)
			continue
		}
		if l, e := d.Ids(); len(l) != 0 || e != api.OK {
			t.Errorf("%s and nil: what Join made is none: %v, %v", name, l, e)
		}
	}
}

// TestP14_2_JoinIsNew: what is joined is apart from what it was joined from, and no two lists of the answer are one.
func TestP14_2_JoinIsNew(t *testing.T) {
	a := made(t, "a", "b")
	for _, b := range []*dict.Dict{a, made(t, "a", "b"), nil} {
		d, x, y, _ := dict.Join(a, b)
		if d == a || d == b && b != nil {
			t.Error("Join answers what it was handed")
		}
		y = y[:cap(y)]
		for i := range y {
			y[i] = 77
		}
		if !slices.Equal(x, []int{0, 1}) {
			t.Errorf("a change of the second places changes the first ones: %v", x)
		}
		x = x[:cap(x)]
		for i := range x {
			x[i] = 78
		}
		if _, x, _, _ := dict.Join(a, b); !slices.Equal(x, []int{0, 1}) || !slices.Equal(d.Terms(), []string{"a", "b"}) {
			t.Errorf("Join = %v behind a change of an earlier answer", x)
		}
	}
}

// TestP14_2_AsNew: whatever is joined is the New of all members, and tells where each one went.
func TestP14_2_AsNew(t *testing.T) {
	l := rows()
	for i := range l {
		for j := range l {
			a, b := made(t, l[i]...), made(t, l[j]...)
			all, e := dict.New(append(slices.Clone(l[i]), l[j]...)...)
			d, x, y, err := dict.Join(a, b)
			if err != e {
				t.Fatalf("Join of %q, %q = %v, want %v", l[i], l[j], err, e)
			}
			if e != api.OK {
				continue
			}
			if !slices.Equal(d.Terms(), all.Terms()) || len(x) != a.Len() || len(y) != b.Len() {
				t.Fatalf("Join of %q, %q = %q, %v, %v", l[i], l[j], d.Terms(), x, y)
			}
			wantLed(t, a, d, x)
			wantLed(t, b, d, y)
		}
	}
}

// wantLed holds the places in another dictionary against a dictionary's members.
func wantLed(t *testing.T, from, to *dict.Dict, places []int) {
	t.Helper()
	for i, at := range places {
		want, _ := from.Term(i)
		if s, ok := to.Term(at); s != want || !ok {
			t.Fatalf("the member %q stands at %d, where %q is", want, at, s)
		}
	}
}

func TestP14_3(t *testing.T) {
	for _, l := range append(rows(), mixed(many(200))) {
		d := made(t, l...)
		for i := range d.Len() {
			s, ok := d.Term(i)
			if at, is := d.Id(s); at != i || !is || !ok {
				t.Errorf("Id of Term(%d) = %d, %v", i, at, is)
			}
		}
		for _, a := range l {
			for _, b := range l {
				x, _ := d.Id(a)
				y, _ := d.Id(b)
				if (a < b) != (x < y) || (a == b) != (x == y) {
					t.Errorf("%q stands at %d, %q at %d", a, x, b, y)
				}
			}
		}
	}
}
