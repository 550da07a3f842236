package tier_test

import (
	"fmt"
	"math"
	"math/rand"
	"slices"
	"strings"
	"testing"

	"pithead/api"
	"pithead/take"
	"pithead/term"
	"pithead/tier"
)

const sixteen = "0123456789abcdef"

// many are so many members, which rise.
func many(n int) []string {
	l := make([]string, n)
	for i := range l {
		l[i] = fmt.Sprintf("m%04d", i)
	}
	return l
}

// up are so many places, each of them below above, as far as they go.
func up(n, above int) []int {
	l := make([]int, n)
	for i := range l {
		l[i] = i % above
	}
	return l
}

func low() api.Tier {
	return api.Tier{Name: "low", Terms: []string{"a", "b", "c"}, Up: []int{0, 0, 1}}
}

func top() api.Tier { return api.Tier{Name: "top", Terms: []string{"p", "q"}} }

func clone(t api.Tier) api.Tier {
	return api.Tier{Name: t.Name, Terms: slices.Clone(t.Terms), Up: slices.Clone(t.Up)}
}

func same(a, b api.Tier) bool {
	return a.Name == b.Name && slices.Equal(a.Terms, b.Terms) && slices.Equal(a.Up, b.Up)
}

func zero(t api.Tier) bool { return same(t, api.Tier{}) }

// checkCase is a tier, how many members there are above it, and what Check says.
type checkCase struct {
	name  string
	t     api.Tier
	above int
	e     api.Errno
}

func checkCases() []checkCase {
	a, three := []string{"a"}, []string{"a", "b", "c"}
	return []checkCase{
		{"one below others", low(), 2, api.OK},
		{"the top one", top(), 0, api.OK},
		{"the top one, of less than none", top(), -1, api.OK},
		{"the top one, of far less", top(), math.MinInt, api.OK},
		{"the top one, its Up empty", api.Tier{Name: "t", Terms: a, Up: []int{}}, 0, api.OK},
		{"each under its own", api.Tier{Name: "t", Terms: three, Up: []int{2, 0, 1}}, 3, api.OK},
		{"all under one", api.Tier{Name: "t", Terms: three, Up: []int{0, 0, 0}}, 1, api.OK},
		{"the longest name", api.Tier{Name: "abcdefghi_12", Terms: a}, 0, api.OK},
		{"200 members", api.Tier{Name: "t", Terms: many(200)}, 0, api.OK},
		{"200 members under 200", api.Tier{Name: "t", Terms: many(200), Up: up(200, 200)}, 200, api.OK},
		{"200 members under 7", api.Tier{Name: "t", Terms: many(200), Up: up(200, 7)}, 7, api.OK},
		{"the longest member", api.Tier{Name: "t", Terms: []string{sixteen}}, 0, api.OK},

		{"nothing", api.Tier{}, 0, api.ErrArg},
		{"no name, and all else is wrong", api.Tier{Terms: []string{"b", ""}, Up: []int{9}}, 0, api.ErrArg},
		{"no name, and no members", api.Tier{Name: ""}, 2, api.ErrArg},
		{"a capital letter, and no members", api.Tier{Name: "T"}, 0, api.ErrArg},
		{"a name too long", api.Tier{Name: "abcdefghijklm", Terms: a}, 0, api.ErrArg},
		{"no members", api.Tier{Name: "t"}, 0, api.ErrLimit},
		{"no members below one", api.Tier{Name: "t", Terms: []string{}}, 1, api.ErrLimit},
		{"no members, and an Up", api.Tier{Name: "t", Up: []int{0}}, 1, api.ErrLimit},
		{"201 members", api.Tier{Name: "t", Terms: many(201)}, 0, api.ErrLimit},
		{"201 members that fall", api.Tier{Name: "t", Terms: append([]string{"z"}, many(200)...)}, 0, api.ErrLimit},
		{"an empty member", api.Tier{Name: "t", Terms: []string{""}}, 0, api.ErrArg},
		{"a member too long, and no tree", api.Tier{Name: "t", Terms: []string{sixteen + "g"}, Up: []int{1}}, 0, api.ErrArg},
		{"falling", api.Tier{Name: "t", Terms: []string{"b", "a"}}, 0, api.ErrOrder},
		{"a member twice", api.Tier{Name: "t", Terms: []string{"a", "a"}}, 0, api.ErrOrder},
		{"falling, and no tree", api.Tier{Name: "t", Terms: []string{"b", "a"}, Up: []int{5}}, 2, api.ErrOrder},

		{"the top one with an Up", api.Tier{Name: "t", Terms: a, Up: []int{0}}, 0, api.ErrTree},
		{"the top one with an Up, of less than none", api.Tier{Name: "t", Terms: a, Up: []int{0}}, -1, api.ErrTree},
		{"the top one with an Up of -1", api.Tier{Name: "t", Terms: a, Up: []int{-1}}, 0, api.ErrTree},
		{"no Up", api.Tier{Name: "t", Terms: a}, 1, api.ErrTree},
		{"an Up too short", api.Tier{Name: "t", Terms: three, Up: []int{0, 1}}, 2, api.ErrTree},
		{"an Up too long", api.Tier{Name: "t", Terms: three, Up: []int{0, 1, 0, 1}}, 2, api.ErrTree},
		{"a place too high", api.Tier{Name: "t", Terms: three, Up: []int{0, 1, 2}}, 2, api.ErrTree},
		{"a place too high, as many as there are", api.Tier{Name: "t", Terms: three, Up: []int{0, 2, 2}}, 2, api.ErrTree},
		{"a place below 0", api.Tier{Name: "t", Terms: three, Up: []int{0, 1, -1}}, 2, api.ErrTree},
		{"a place below 0, as many as there are", api.Tier{Name: "t", Terms: three, Up: []int{-1, 1, 1}}, 2, api.ErrTree},
		{"a place far below 0", api.Tier{Name: "t", Terms: a, Up: []int{math.MinInt}}, 1, api.ErrTree},
		{"nobody under the first", api.Tier{Name: "t", Terms: three, Up: []int{1, 1, 1}}, 2, api.ErrTree},
		{"nobody under the last", api.Tier{Name: "t", Terms: three, Up: []int{0, 0, 1}}, 3, api.ErrTree},
		{"nobody under one in the midst", api.Tier{Name: "t", Terms: three, Up: []int{0, 2, 0}}, 3, api.ErrTree},
		{"more above than below", api.Tier{Name: "t", Terms: three, Up: []int{0, 1, 2}}, 4, api.ErrTree},
		{"a great many above", api.Tier{Name: "t", Terms: three, Up: []int{0, 1, math.MaxInt - 1}}, math.MaxInt, api.ErrTree},
	}
}

func TestP15_1_Check(t *testing.T) {
	for _, c := range checkCases() {
		before := clone(c.t)
		if e := tier.Check(c.t, c.above); e != c.e {
			t.Errorf("%s: Check = %v, want %v", c.name, e, c.e)
		}
		if !same(before, c.t) {
			t.Errorf("%s: Check has changed its tier", c.name)
		}
	}
}

// TestP15_1_CheckEnd: what stands behind a list's end is not looked at.
func TestP15_1_CheckEnd(t *testing.T) {
	terms, ups := []string{"a", "b", ""}, []int{0, 1, 77}
	if e := tier.Check(api.Tier{Name: "t", Terms: terms[:2], Up: ups[:2]}, 2); e != api.OK {
		t.Errorf("Check = %v", e)
	}
	if e := tier.Check(api.Tier{Name: "t", Terms: terms[:2], Up: ups[:0]}, 0); e != api.OK {
		t.Errorf("Check of a top one = %v", e)
	}
	if e := tier.Check(api.Tier{Name: "t", Terms: terms[:2], Up: ups[:1]}, 2); e != api.ErrTree {
		t.Errorf("Check of an Up too short = %v", e)
	}
	if at := tier.Over(api.Tier{Up: ups[:2]}, 2); at != -1 {
		t.Errorf("Over = %d", at)
	}
	if l := tier.Under(api.Tier{Up: ups[:2]}, 77); len(l) != 0 {
		t.Errorf("Under = %v", l)
	}
	if at, is := tier.Find(api.Tier{Terms: terms[:1]}, "b"); at != 0 || is {
		t.Errorf("Find = %d, %v", at, is)
	}
}

func TestP15_1_Find(t *testing.T) {
	l := many(200)
	for i, s := range l {
		if at, is := tier.Find(api.Tier{Terms: l}, s); at != i || !is {
			t.Errorf("Find(%q) = %d, %v", s, at, is)
		}
		for _, none := range []string{s + "x", s[:3] + "x", strings.ToUpper(s)} {
			if at, is := tier.Find(api.Tier{Terms: l}, none); at != 0 || is {
				t.Errorf("Find(%q) = %d, %v", none, at, is)
			}
		}
	}
	for _, s := range []string{"", "a", "m0", "zz", "low", sixteen + sixteen} {
		for _, x := range []api.Tier{{}, {Name: "a", Terms: []string{"b", "c"}}, {Terms: l}} {
			if at, is := tier.Find(x, s); at != 0 || is {
				t.Errorf("Find(%q) = %d, %v", s, at, is)
			}
		}
	}
}

func TestP15_1_Over(t *testing.T) {
	for _, c := range []struct {
		name string
		t    api.Tier
		i    int
		want int
	}{
		{"the first", low(), 0, 0},
		{"the last", low(), 2, 1},
		{"one behind", low(), 3, -1},
		{"one ahead", low(), -1, -1},
		{"far behind", low(), math.MaxInt, -1},
		{"far ahead", low(), math.MinInt, -1},
		{"of a top one", top(), 0, -1},
		{"of none", api.Tier{}, 0, -1},
		{"more than there are members", api.Tier{Terms: []string{"a"}, Up: []int{5, 6, 7}}, 2, 7},
		{"without members", api.Tier{Up: []int{5, 6}}, 1, 6},
		{"less than there are members", api.Tier{Terms: []string{"a", "b"}, Up: []int{5}}, 1, -1},
		{"a place below 0", api.Tier{Terms: []string{"a"}, Up: []int{-9}}, 0, -9},
		{"a huge place", api.Tier{Terms: []string{"a"}, Up: []int{math.MaxInt}}, 0, math.MaxInt},
	} {
		if at := tier.Over(c.t, c.i); at != c.want {
			t.Errorf("%s: Over = %d, want %d", c.name, at, c.want)
		}
	}
}

func TestP15_1_Under(t *testing.T) {
	odd := api.Tier{Terms: []string{"a"}, Up: []int{3, -2, 3, 0, math.MaxInt, -2, 3}}
	for _, c := range []struct {
		name string
		t    api.Tier
		n    int
		want []int
	}{
		{"two", low(), 0, []int{0, 1}},
		{"one", low(), 1, []int{2}},
		{"none", low(), 2, nil},
		{"below 0", low(), -1, nil},
		{"far off", low(), math.MaxInt, nil},
		{"of a top one", top(), 0, nil},
		{"of none", api.Tier{}, 0, nil},
		{"more than there are members", odd, 3, []int{0, 2, 6}},
		{"what tells of one below 0", odd, -2, []int{1, 5}},
		{"what tells of a huge one", odd, math.MaxInt, []int{4}},
		{"what tells of none", odd, -1, nil},
		{"less than there are members", api.Tier{Terms: []string{"a", "b", "c"}, Up: []int{0}}, 0, []int{0}},
	} {
		if l := tier.Under(c.t, c.n); !slices.Equal(l, c.want) {
			t.Errorf("%s: Under = %v, want %v", c.name, l, c.want)
		}
	}
}

func TestP15_1_UnderIsNew(t *testing.T) {
	x := low()
	l := tier.Under(x, 0)
	l = l[:cap(l)]
	for i := range l {
		l[i] = 77
	}
	if !same(x, low()) || !slices.Equal(tier.Under(x, 0), []int{0, 1}) {
		t.Errorf("Under = %v behind a change of an earlier answer", tier.Under(x, 0))
	}
}

func TestP15_2_Put(t *testing.T) {
	for _, c := range []struct {
		name  string
		t     api.Tier
		above int
		s     string
	}{
		{"one below others", low(), 2, "\x03low\x03\x00\x01a\x00\x01b\x00\x01c\x00\x00\x01"},
		{"the top one", top(), 0, "\x03top\x02\x00\x01p\x00\x01q"},
		{"the top one, of less than none", top(), -5, "\x03top\x02\x00\x01p\x00\x01q"},
		{"members that begin alike", api.Tier{Name: "t_1", Terms: []string{"ab", "abc", "b"}, Up: []int{1, 0, 1}}, 2, "\x03t_1\x03\x00\x02ab\x02\x01c\x00\x01b\x01\x00\x01"},
		{"the longest of all", api.Tier{Name: "abcdefghi_12", Terms: []string{sixteen}, Up: []int{0}}, 1, "\x0cabcdefghi_12\x01\x00\x10" + sixteen + "\x00"},
	} {
		if s, e := tier.Put(c.t, c.above); s != c.s || e != api.OK {
			t.Errorf("%s: Put = %q, %v, want %q", c.name, s, e, c.s)
		}
	}
	for _, c := range checkCases() {
		before := clone(c.t)
		s, e := tier.Put(c.t, c.above)
		if e != c.e || (e == api.OK) != (s != "") {
			t.Errorf("%s: Put = %q, %v, want %v", c.name, s, e, c.e)
		}
		if !same(before, c.t) {
			t.Errorf("%s: Put has changed its tier", c.name)
		}
	}
}

// TestP15_2_PutLarge: places above 127 take two bytes each.
func TestP15_2_PutLarge(t *testing.T) {
	x := api.Tier{Name: "t", Terms: many(200), Up: up(200, 200)}
	terms, _ := term.Put(x.Terms)
	want := "\x01t" + terms
	for _, n := range x.Up {
		want += take.PutNum(n)
	}
	s, e := tier.Put(x, 200)
	if s != want || e != api.OK || !strings.HasSuffix(s, "\x80\xc7") {
		t.Errorf("Put = %q, %v, want %q", s, e, want)
	}
}

// takeCase is bytes, how many members there are above, and what Take says.
type takeCase struct {
	name, s string
	above   int
	t       api.Tier
	e       api.Errno
}

func takeCases() []takeCase {
	const head, terms = "\x03low", "\x03\x00\x01a\x00\x01b\x00\x01c"
	tooMany, _ := term.Put(many(201))
	return []takeCase{
		{"one below others", head + terms + "\x00\x00\x01", 2, low(), api.OK},
		{"the top one", head + terms, 0, api.Tier{Name: "low", Terms: []string{"a", "b", "c"}}, api.OK},
		{"the top one, of less than none", head + terms, math.MinInt, api.Tier{Name: "low", Terms: []string{"a", "b", "c"}}, api.OK},
		{"the longest name", "\x0cabcdefghi_12\x01\x00\x01a\x00", 1, api.Tier{Name: "abcdefghi_12", Terms: []string{"a"}, Up: []int{0}}, api.OK},

		{"nothing", "", 0, api.Tier{}, api.ErrForm},
		{"a name cut off", "\x03lo", 0, api.Tier{}, api.ErrForm},
		{"a name too long", "\x0dabcdefghijklm" + terms, 0, api.Tier{}, api.ErrLimit},
		{"a name too long, cut off", "\x0d", 0, api.Tier{}, api.ErrLimit},
		{"a name alone", head, 0, api.Tier{}, api.ErrForm},
		{"no name", "\x00" + terms, 0, api.Tier{}, api.ErrArg},
		{"a name with a capital letter", "\x03Low" + terms, 0, api.Tier{}, api.ErrArg},
		{"a name with a capital letter, and members cut off", "\x03Low\x03\x00\x01a", 0, api.Tier{}, api.ErrForm},
		{"no members", head + "\x00", 0, api.Tier{}, api.ErrLimit},
		{"no members below two", head + "\x00", 2, api.Tier{}, api.ErrLimit},
		{"no name, and no members", "\x00\x00", 0, api.Tier{}, api.ErrArg},
		{"201 members", head + tooMany, 0, api.Tier{}, api.ErrLimit},
		{"201 members, cut off", head + "\x80\xc9", 0, api.Tier{}, api.ErrLimit},
		{"200 members, cut off", head + "\x80\xc8", 0, api.Tier{}, api.ErrForm},
		{"members that fall", head + "\x02\x00\x01b\x00\x01a", 0, api.Tier{}, api.ErrForm},
		{"members that fall, below one", head + "\x02\x00\x01b\x00\x01a\x00\x00", 1, api.Tier{}, api.ErrForm},
		{"an empty member", head + "\x01\x00\x00", 0, api.Tier{}, api.ErrForm},
		{"no Up", head + terms, 2, api.Tier{}, api.ErrForm},
		{"an Up cut off", head + terms + "\x00\x01", 2, api.Tier{}, api.ErrForm},
		{"an Up too long", head + terms + "\x00\x01\x00\x01", 2, api.Tier{}, api.ErrForm},
		{"an Up of the top one", head + terms + "\x00\x00\x00", 0, api.Tier{}, api.ErrForm},
		{"a place too high", head + terms + "\x00\x01\x02", 2, api.Tier{}, api.ErrLimit},
		{"a place too high, ahead of what is missing", head + terms + "\x02", 2, api.Tier{}, api.ErrLimit},
		{"a place of a longer form", head + terms + "\x00\x01\x80\x00", 2, api.Tier{}, api.ErrForm},
		{"nobody under the first", head + terms + "\x01\x01\x01", 2, api.Tier{}, api.ErrTree},
		{"nobody under the last", head + terms + "\x00\x01\x00", 3, api.Tier{}, api.ErrTree},
		{"nobody under one, and bytes left", head + terms + "\x00\x01\x00\x00", 3, api.Tier{}, api.ErrTree},
		{"no name, and nobody under one", "\x00" + terms + "\x00\x00\x00", 2, api.Tier{}, api.ErrArg},
		{"a great many above", head + terms + "\x00\x01\x02", math.MaxInt, api.Tier{}, api.ErrTree},
		{"bytes left", head + terms + "x", 0, api.Tier{}, api.ErrForm},
	}
}

func TestP15_2_Take(t *testing.T) {
	for _, c := range takeCases() {
		if x, e := tier.Take(c.s, c.above); e != c.e || !same(x, c.t) {
			t.Errorf("%s: Take(%q, %d) = %v, %v, want %v, %v", c.name, c.s, c.above, x, e, c.t, c.e)
		}
	}
}

// TestP15_2_Read: Read stands within a reading: ahead of it, and behind it, something else is read.
func TestP15_2_Read(t *testing.T) {
	for _, c := range takeCases() {
		var x api.Tier
		past := false
		e := take.All("x"+c.s+"yz", func(r *take.Reader) {
			r.Byte()
			x = tier.Read(r, c.above)
			past = true
			r.Want(r.Left() == 2 && r.Fix(2) == "yz", api.ErrForm)
		})
		if c.e == api.OK && (e != api.OK || !same(x, c.t)) {
			t.Errorf("%s: Read = %v, %v, want %v", c.name, x, e, c.t)
		}
		if (c.e == api.ErrTree || c.e == api.ErrArg || c.e == api.ErrLimit) && (e != c.e || past) {
			t.Errorf("%s: Read: %v, past it: %v, want %v", c.name, e, past, c.e)
		}
	}
}

func TestP15_2_ReadOutside(t *testing.T) {
	var kept *take.Reader
	take.All("\x03low\x01\x00\x01a", func(r *take.Reader) { kept = r })
	for _, r := range []*take.Reader{nil, {}, kept} {
		for _, above := range []int{math.MinInt, -1, 0, 1, 2, math.MaxInt} {
			if x := tier.Read(r, above); !zero(x) {
				t.Errorf("Read outside of a reading = %v", x)
			}
		}
	}
}

func TestP15_2_TakeIsNew(t *testing.T) {
	const s = "\x03low\x03\x00\x01a\x00\x01b\x00\x01c\x00\x00\x01"
	x, _ := tier.Take(s, 2)
	for i := range x.Terms {
		x.Terms[i] = "zz"
	}
	for i := range x.Up {
		x.Up[i] = 77
	}
	if again, e := tier.Take(s, 2); e != api.OK || !same(again, low()) {
		t.Errorf("Take = %v, %v behind a change of an earlier answer", again, e)
	}
}

// tiers are tiers that may be, and how many members stand above each.
func tiers() (all []api.Tier, above []int) {
	r := rand.New(rand.NewSource(15))
	for range 60 {
		n := 1 + r.Intn(200)
		x := api.Tier{Name: strings.Repeat("t", 1+r.Intn(12)), Terms: many(n)}
		over := r.Intn(n + 1)
		if over > 0 {
			x.Up = up(n, over)
			r.Shuffle(n, func(i, j int) { x.Up[i], x.Up[j] = x.Up[j], x.Up[i] })
		}
		all, above = append(all, x), append(above, over)
	}
	return all, above
}

func TestP15_3_Back(t *testing.T) {
	all, above := tiers()
	for i, x := range all {
		s, e := tier.Put(x, above[i])
		if e != api.OK {
			t.Fatalf("Put = %v", e)
		}
		if back, e := tier.Take(s, above[i]); e != api.OK || !same(back, x) {
			t.Errorf("Take of Put = %v, %v, want %v", back, e, x)
		}
	}
}

// TestP15_3_SameBytes: bytes that are near those of a tier are taken as none, or as one whose bytes they are.
func TestP15_3_SameBytes(t *testing.T) {
	s, _ := tier.Put(low(), 2)
	taken := 0
	for i := range len(s) {
		for b := range 256 {
			near := s[:i] + string([]byte{byte(b)}) + s[i+1:]
			x, e := tier.Take(near, 2)
			if e != api.OK {
				if !zero(x) {
					t.Errorf("Take(%q) = %v beside %v", near, x, e)
				}
				continue
			}
			taken++
			if back, e := tier.Put(x, 2); back != near || e != api.OK {
				t.Errorf("Put of Take(%q) = %q, %v", near, back, e)
			}
		}
	}
	if taken < len(s) {
		t.Errorf("%d were taken", taken)
	}
}

// TestP15_3_Tree: each member of the next tier has one under it, and each member stands under one.
func TestP15_3_Tree(t *testing.T) {
	all, above := tiers()
	for i, x := range all {
		came := 0
		for n := range above[i] {
			l := tier.Under(x, n)
			if len(l) == 0 || !slices.IsSorted(l) {
				t.Errorf("under %d stand %v", n, l)
			}
			for _, k := range l {
				if tier.Over(x, k) != n {
					t.Errorf("%d stands under %d, and not under %d", k, tier.Over(x, k), n)
				}
			}
			came += len(l)
		}
		if above[i] > 0 && came != len(x.Terms) {
			t.Errorf("%d of %d members stand under one", came, len(x.Terms))
		}
	}
}
