package term_test

import (
	"math"
	"math/rand"
	"slices"
	"strings"
	"testing"

	"pithead/api"
	"pithead/take"
	"pithead/term"
)

const sixteen = "0123456789abcdef"

func TestP5_1_Check(t *testing.T) {
	for _, c := range []struct {
		s string
		e api.Errno
	}{
		{"", api.ErrArg}, {"a", api.OK}, {"\x00", api.OK}, {"\xff\xfe", api.OK}, {"A b\n", api.OK},
		{sixteen[:15], api.OK}, {sixteen, api.OK}, {sixteen + "g", api.ErrArg},
		{strings.Repeat("é", 8), api.OK}, {strings.Repeat("é", 9), api.ErrArg}, {strings.Repeat("x", 5000), api.ErrArg},
	} {
		if e := term.Check(c.s); e != c.e {
			t.Errorf("Check(%q) = %v, want %v", c.s, e, c.e)
		}
	}
}

func TestP5_1_Name(t *testing.T) {
	for _, c := range []struct {
		s string
		e api.Errno
	}{
		{"", api.ErrArg}, {"a", api.OK}, {"_", api.OK}, {"0", api.OK}, {"a_9", api.OK}, {"9", api.OK}, {"az09_", api.OK},
		{"abcdefghijkl", api.OK}, {"abcdefghijklm", api.ErrArg}, {"A", api.ErrArg}, {"aB", api.ErrArg},
		{"a b", api.ErrArg}, {"a-b", api.ErrArg}, {"é", api.ErrArg}, {"ab\x00", api.ErrArg}, {strings.Repeat("x", 5000), api.ErrArg},
	} {
		if e := term.Name(c.s); e != c.e {
			t.Errorf("Name(%q) = %v, want %v", c.s, e, c.e)
		}
	}
	const letters = "abcdefghijklmnopqrstuvwxyz0123456789_"
	for b := range 256 {
		want := api.ErrArg
		if strings.IndexByte(letters, byte(b)) >= 0 {
			want = api.OK
		}
		for _, s := range [][]byte{{byte(b)}, {'a', byte(b)}, {byte(b), 'a'}} {
			if e := term.Name(string(s)); e != want {
				t.Errorf("Name(%q) = %v, want %v", s, e, want)
			}
		}
	}
}

// rowCases are rows, and what Row says of them.
func rowCases() []struct {
	l []string
	e api.Errno
} {
	return []struct {
		l []string
		e api.Errno
	}{
		{nil, api.OK}, {[]string{}, api.OK}, {[]string{"a"}, api.OK}, {[]string{"a", "b", "c"}, api.OK},
		{[]string{"a", "a\x00", "ab", "b"}, api.OK}, {[]string{"Z", "a", "\xff"}, api.OK}, {[]string{sixteen}, api.OK},
		{[]string{""}, api.ErrArg}, {[]string{sixteen + "g"}, api.ErrArg}, {[]string{"a", ""}, api.ErrArg},
		{[]string{"z", sixteen + "g"}, api.ErrArg},
		{[]string{"b", "a"}, api.ErrOrder}, {[]string{"a", "a"}, api.ErrOrder}, {[]string{"ab", "a"}, api.ErrOrder},
		{[]string{"a", "c", "b"}, api.ErrOrder}, {[]string{"\xff", "a"}, api.ErrOrder},
		{[]string{"b", "a", ""}, api.ErrOrder}, {[]string{"b", "", "a"}, api.ErrArg},
	}
}

func TestP5_1_Row(t *testing.T) {
	for _, c := range rowCases() {
		if e := term.Row(c.l); e != c.e {
			t.Errorf("Row(%q) = %v, want %v", c.l, e, c.e)
		}
	}
	l := []string{"a", "b", ""}
	if e := term.Row(l[:2]); e != api.OK {
		t.Errorf("Row looks behind a list's end: %v", e)
	}
}

// rising are rows that rise, of several lengths.
func rising() [][]string {
	r := rand.New(rand.NewSource(5))
	l := [][]string{nil, {"m"}, {"a", "c", "e"}, {"a", "aa", "aaa", "ab", "b"}, {"\x00", "\x00\x00", "\xff", "\xff\xff"}}
	for n := range 30 {
		var row []string
		for range n * 4 {
			b := make([]byte, 1+r.Intn(6))
			for i := range b {
				b[i] = "ab\x00\xff"[r.Intn(4)]
			}
			row = append(row, string(b))
		}
		slices.Sort(row)
		l = append(l, slices.Compact(row))
	}
	return l
}

// near are a row's texts, and others round about them.
func near(l []string) []string {
	all := []string{"", "a", "b", "zz", "\xff\xff\xff\xff\xff\xff\xff\xff"}
	for _, s := range l {
		all = append(all, s, s+"\x00", s[:len(s)-1], s+"\xff")
	}
	return all
}

func TestP5_2_Find(t *testing.T) {
	for _, l := range rising() {
		for _, s := range near(l) {
			less, is := 0, false
			for _, x := range l {
				if x < s {
					less++
				}
				is = is || x == s
			}
			if at, ok := term.Find(l, s); at != less || ok != is {
				t.Errorf("Find(%q, %q) = %d, %v, want %d, %v", l, s, at, ok, less, is)
			}
		}
	}
}

func TestP5_2_Between(t *testing.T) {
	for _, c := range []struct {
		l        []string
		lo, hi   string
		from, to int
	}{
		{nil, "a", "z", 0, 0},
		{[]string{"a", "c", "e"}, "a", "e", 0, 3},
		{[]string{"a", "c", "e"}, "c", "c", 1, 2},
		{[]string{"a", "c", "e"}, "b", "d", 1, 2},
		{[]string{"a", "c", "e"}, "d", "b", 1, 1},
		{[]string{"a", "c", "e"}, "e", "a", 1, 1},
		{[]string{"a", "c", "e"}, "d", "d", 2, 2},
		{[]string{"a", "c", "e"}, "", "", 0, 0},
		{[]string{"a", "c", "e"}, "f", "g", 3, 3},
		{[]string{"a", "c", "e"}, "z", "", 0, 0},
	} {
		if from, to := term.Between(c.l, c.lo, c.hi); from != c.from || to != c.to {
			t.Errorf("Between(%q, %q, %q) = %d, %d", c.l, c.lo, c.hi, from, to)
		}
	}
	for _, l := range rising()[:14] {
		for _, lo := range near(l) {
			for _, hi := range near(l) {
				to, some := 0, 0
				for _, x := range l {
					if x <= hi {
						to++
						if x >= lo {
							some++
						}
					}
				}
				if from, end := term.Between(l, lo, hi); from != to-some || end != to {
					t.Errorf("Between(%q, %q, %q) = %d, %d, want %d, %d", l, lo, hi, from, end, to-some, to)
				}
			}
		}
	}
}

// TestP5_2_NotRising: of rows that do not rise the calls end.
func TestP5_2_NotRising(t *testing.T) {
	for _, l := range [][]string{{"c", "b", "a"}, {"a", "a", "a"}, {"", ""}, {"b", "a", "c", "a", strings.Repeat("x", 99)}} {
		for _, s := range []string{"", "a", "b", "z"} {
			term.Find(l, s)
			term.Between(l, s, "b")
			term.Between(l, "b", s)
		}
	}
}

func TestP5_3_Put(t *testing.T) {
	for _, c := range []struct {
		l []string
		s string
	}{
		{nil, "\x00"},
		{[]string{}, "\x00"},
		{[]string{"ab", "abc"}, "\x02\x00\x02ab\x02\x01c"},
		{[]string{"a", "b"}, "\x02\x00\x01a\x00\x01b"},
		{[]string{"abcd", "abd", "b"}, "\x03\x00\x04abcd\x02\x01d\x00\x01b"},
		{[]string{sixteen}, "\x01\x00\x10" + sixteen},
		{[]string{sixteen[:15], sixteen}, "\x02\x00\x0f" + sixteen[:15] + "\x0f\x01f"},
	} {
		if s, e := term.Put(c.l); s != c.s || e != api.OK {
			t.Errorf("Put(%q) = %x, %v, want %x", c.l, s, e, c.s)
		}
	}
	for _, c := range rowCases() {
		before := slices.Clone(c.l)
		s, e := term.Put(c.l)
		if e != c.e || (e != api.OK) != (s == "") {
			t.Errorf("Put(%q) = %x, %v, want %v", c.l, s, e, c.e)
		}
		if !slices.Equal(before, c.l) {
			t.Errorf("Put has changed %q", before)
		}
	}
}

// takeCases are bytes, how many texts there may be, and what Take says.
func takeCases() []struct {
	name, s string
	most    int
	l       []string
	e       api.Errno
} {
	return []struct {
		name, s string
		most    int
		l       []string
		e       api.Errno
	}{
		{"a row", "\x02\x00\x02ab\x02\x01c", 2, []string{"ab", "abc"}, api.OK},
		{"none", "\x00", 0, nil, api.OK},
		{"none, of the most", "\x00", math.MaxInt, nil, api.OK},
		{"the longest", "\x01\x00\x10" + sixteen, 1, []string{sixteen}, api.OK},
		{"the longest, in parts", "\x02\x00\x0f" + sixteen[:15] + "\x0f\x01f", 2, []string{sixteen[:15], sixteen}, api.OK},
		{"too many", "\x02\x00\x02ab\x02\x01c", 1, nil, api.ErrLimit},
		{"none, most below 0", "\x00", -1, nil, api.ErrLimit},
		{"too many, and no texts", "\x05", 4, nil, api.ErrLimit},
		{"nothing", "", 5, nil, api.ErrForm},
		{"fewer than told", "\x02\x00\x01a", 5, nil, api.ErrForm},
		{"huge, and no texts", "\xff\x7f\xff\xff\xff\xff\xff\xff\xff", math.MaxInt, nil, api.ErrForm},
		{"more than told", "\x01\x00\x01a\x00\x01b", 5, nil, api.ErrForm},
		{"the first begins like none", "\x01\x01\x01a", 5, nil, api.ErrLimit},
		{"begins with more than there is", "\x02\x00\x01a\x02\x01b", 5, nil, api.ErrLimit},
		{"no beginning", "\x01", 5, nil, api.ErrForm},
		{"no rest", "\x01\x00", 5, nil, api.ErrForm},
		{"a rest cut off", "\x01\x00\x02a", 5, nil, api.ErrForm},
		{"a rest too long", "\x01\x00\x11" + sixteen + "g", 5, nil, api.ErrLimit},
		{"a rest too long, cut off", "\x01\x00\x11a", 5, nil, api.ErrLimit},
		{"an empty text", "\x01\x00\x00", 5, nil, api.ErrForm},
		{"too long with its beginning", "\x02\x00\x01a\x01\x10" + sixteen, 5, nil, api.ErrForm},
		{"the same twice", "\x02\x00\x01a\x01\x00", 5, nil, api.ErrForm},
		{"the same twice, told whole", "\x02\x00\x01a\x00\x01a", 5, nil, api.ErrForm},
		{"falling", "\x02\x00\x01b\x00\x01a", 5, nil, api.ErrForm},
		{"a beginning of the one ahead", "\x02\x00\x02ab\x01\x00", 5, nil, api.ErrForm},
		{"less shared than there is", "\x02\x00\x02ab\x01\x02bc", 5, nil, api.ErrForm},
		{"nothing shared, though there is", "\x02\x00\x02ab\x00\x02ac", 5, nil, api.ErrForm},
		{"a longer form of a number", "\x80\x01\x00\x01a", 5, nil, api.ErrForm},
		{"the fault behind a good text", "\x03\x00\x01a\x00\x01b\x00\x01a", 5, nil, api.ErrForm},
	}
}

func TestP5_3_Take(t *testing.T) {
	for _, c := range takeCases() {
		if l, e := term.Take(c.s, c.most); e != c.e || !slices.Equal(l, c.l) {
			t.Errorf("%s: Take(%x, %d) = %q, %v, want %q, %v", c.name, c.s, c.most, l, e, c.l, c.e)
		}
	}
}

// TestP5_3_Read: Read stands within a reading: ahead of it, and behind it, something else is read.
func TestP5_3_Read(t *testing.T) {
	for _, c := range takeCases() {
		if c.e != api.OK {
			continue
		}
		var l []string
		e := take.All("x"+c.s+"yz", func(r *take.Reader) {
			r.Byte()
			l = term.Read(r, c.most)
			if got := r.Fix(2); got != "yz" {
				t.Errorf("%s: behind it stands %q", c.name, got)
			}
		})
		if e != api.OK || !slices.Equal(l, c.l) {
			t.Errorf("%s: Read = %q, %v, want %q", c.name, l, e, c.l)
		}
	}
	past := false
	e := take.All("\x01\x00\x00", func(r *take.Reader) {
		term.Read(r, 5)
		past = true
	})
	if e != api.ErrForm || past {
		t.Errorf("a fault: All = %v, and it went on: %v", e, past)
	}
}

func TestP5_3_ReadOutside(t *testing.T) {
	var kept *take.Reader
	take.All("\x01\x00\x01a", func(r *take.Reader) { kept = r })
	for _, r := range []*take.Reader{nil, {}, kept} {
		for _, most := range []int{-1, 0, 5} {
			if l := term.Read(r, most); len(l) != 0 {
				t.Errorf("Read outside of a reading = %q", l)
			}
		}
	}
}

func TestP5_3_TakeIsNew(t *testing.T) {
	const s = "\x02\x00\x01a\x00\x01b"
	a, _ := term.Take(s, 2)
	a[0] = "z"
	if b, e := term.Take(s, 2); e != api.OK || !slices.Equal(b, []string{"a", "b"}) {
		t.Errorf("Take = %q, %v behind a change of an earlier answer", b, e)
	}
}

func TestP5_4_Back(t *testing.T) {
	for _, l := range rising() {
		s, e := term.Put(l)
		if e != api.OK {
			t.Fatalf("Put(%q) = %v", l, e)
		}
		if got, e := term.Take(s, len(l)); e != api.OK || !slices.Equal(got, l) {
			t.Errorf("Take of Put(%q) = %q, %v", l, got, e)
		}
		if got, e := term.Take(s, len(l)-1); e != api.ErrLimit || len(got) != 0 {
			t.Errorf("Take of Put(%q), of one less = %q, %v", l, got, e)
		}
	}
}

// TestP5_4_SameBytes: bytes that are near those of a row are taken as no row, or as one whose bytes they are.
func TestP5_4_SameBytes(t *testing.T) {
	taken := 0
	for _, l := range rising()[:12] {
		s, _ := term.Put(l)
		for i := range len(s) {
			for _, b := range []byte{0, 1, 2, 3, 4, 'a', 'b', 'c', 0x7f, 0x80, 0xff} {
				near := s[:i] + string([]byte{b}) + s[i+1:]
				got, e := term.Take(near, 1000)
				if e != api.OK {
					continue
				}
				taken++
				if back, e := term.Put(got); back != near || e != api.OK {
					t.Errorf("Put of Take(%x) = %x, %v", near, back, e)
				}
			}
		}
	}
	if taken == 0 {
		t.Error("nothing was taken")
	}
}
