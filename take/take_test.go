package take_test

import (
	"math"
	"slices"
	"strings"
	"testing"

	"pithead/api"
	"pithead/take"
)

// call is a reading by one call, and what it answered.
type call struct {
	name string
	do   func(r *take.Reader) any
	zero any
}

func calls() []call {
	return []call{
		{"Byte", func(r *take.Reader) any { return r.Byte() }, byte(0)},
		{"Num", func(r *take.Reader) any { return r.Num(1000) }, 0},
		{"Num of none", func(r *take.Reader) any { return r.Num(-1) }, 0},
		{"Int", func(r *take.Reader) any { return r.Int() }, int64(0)},
		{"Fix", func(r *take.Reader) any { return r.Fix(1) }, ""},
		{"Fix of too many", func(r *take.Reader) any { return r.Fix(1000) }, ""},
		{"Fix of less than none", func(r *take.Reader) any { return r.Fix(-1) }, ""},
		{"Text", func(r *take.Reader) any { return r.Text(1000) }, ""},
		{"Left", func(r *take.Reader) any { return r.Left() }, 0},
		{"Want", func(r *take.Reader) any { r.Want(false, api.ErrTree); return nil }, nil},
	}
}

// wantDead: a Reader outside of its reading answers 0, empty, and does nothing.
func wantDead(t *testing.T, what string, r *take.Reader) {
	t.Helper()
	for _, c := range calls() {
		if got := c.do(r); got != c.zero {
			t.Errorf("%s: %s answers %v", what, c.name, got)
		}
	}
}

func TestP4_1_All(t *testing.T) {
	for _, c := range []struct {
		name, s string
		read    func(r *take.Reader)
		e       api.Errno
	}{
		{"nothing of nothing", "", func(r *take.Reader) {}, api.OK},
		{"nothing of a byte", "a", func(r *take.Reader) {}, api.ErrForm},
		{"all", "\x02ab", func(r *take.Reader) { r.Text(5) }, api.OK},
		{"all but one", "\x02abc", func(r *take.Reader) { r.Text(5) }, api.ErrForm},
		{"an error ahead of bytes that are left", "\x02abc", func(r *take.Reader) { r.Text(1) }, api.ErrLimit},
		{"an error where no bytes are left", "a", func(r *take.Reader) { r.Byte(); r.Want(false, api.ErrTwice) }, api.ErrTwice},
	} {
		times := 0
		e := take.All(c.s, func(r *take.Reader) {
			times++
			if r.Left() != len(c.s) {
				t.Errorf("%s: the reading begins with %d bytes", c.name, r.Left())
			}
			c.read(r)
		})
		if e != c.e || times != 1 {
			t.Errorf("%s: All = %v, and read was called %d times", c.name, e, times)
		}
	}
}

func TestP4_1_FirstError(t *testing.T) {
	past := false
	e := take.All("\x09\x80", func(r *take.Reader) {
		r.Num(8)
		past = true
		r.Int()
	})
	if e != api.ErrLimit || past {
		t.Errorf("All = %v; behind the error something was done: %v", e, past)
	}
	deep := func(r *take.Reader) {
		func() { r.Want(false, api.ErrMember) }()
		past = true
	}
	if e := take.All("ab", deep); e != api.ErrMember || past {
		t.Errorf("All = %v; behind the error something was done: %v", e, past)
	}
}

// TestP4_1_Kept: even where read goes on behind an error, the reading has ended, and the first error is the answer.
func TestP4_1_Kept(t *testing.T) {
	e := take.All("abc", func(r *take.Reader) {
		defer func() {
			wantDead(t, "a reading that was ended by an error", r)
		}()
		r.Want(false, api.ErrOrder)
	})
	if e != api.ErrOrder {
		t.Errorf("All = %v", e)
	}
	e = take.All("abc", func(r *take.Reader) {
		func() {
			defer func() { _ = recover() }()
			r.Want(false, api.ErrOrder)
		}()
		r.Want(false, api.ErrTree)
		r.Fix(3)
	})
	if e != api.ErrOrder {
		t.Errorf("All = %v, though the first error was another one", e)
	}
}

func TestP4_1_Outside(t *testing.T) {
	wantDead(t, "nil", nil)
	wantDead(t, "a Reader that no call made", &take.Reader{})
	for _, s := range []string{"", "\x01\x02\x03"} {
		for _, wrong := range []bool{false, true} {
			var kept *take.Reader
			var copied take.Reader
			take.All(s, func(r *take.Reader) {
				kept, copied = r, *r
				r.Want(!wrong, api.ErrForm)
			})
			wantDead(t, "a Reader whose reading has ended", kept)
			wantDead(t, "a copy of a Reader whose reading has ended", &copied)
			*kept = copied
			wantDead(t, "a Reader whose reading has ended, laid back", kept)
		}
	}
}

// TestP4_1_Within: readings within one another know nothing of one another.
func TestP4_1_Within(t *testing.T) {
	inner := api.OK
	e := take.All("ab", func(r *take.Reader) {
		r.Byte()
		inner = take.All("cd", func(r *take.Reader) { r.Fix(3) })
		r.Byte()
	})
	if e != api.OK || inner != api.ErrForm {
		t.Errorf("an error of the inner reading: %v, the outer one %v", inner, e)
	}
	past := false
	e = take.All("ab", func(r *take.Reader) {
		take.All("cd", func(*take.Reader) { r.Want(false, api.ErrTree) })
		past = true
	})
	if e != api.ErrTree || past {
		t.Errorf("an error of the outer reading within the inner one: %v, and it went on: %v", e, past)
	}
	e = take.All("ab", func(r *take.Reader) {
		inner = take.All("c", func(in *take.Reader) { r.Fix(2); in.Byte() })
	})
	if e != api.OK || inner != api.OK {
		t.Errorf("the outer Reader read within the inner reading: %v, %v", inner, e)
	}
}

// TestP4_2_Calls: of each call an input, what it answers, and what is left behind it; or its error.
func TestP4_2_Calls(t *testing.T) {
	const huge = "\xff\x7f\xff\xff\xff\xff\xff\xff\xff" // 2^63 - 1
	const beyond = "\xff\x80\x00\x00\x00\x00\x00\x00\x00"
	const greatest = "\xff\xff\xff\xff\xff\xff\xff\xff\xff"
	num := func(most int) func(r *take.Reader) any {
		return func(r *take.Reader) any { return r.Num(most) }
	}
	fix := func(n int) func(r *take.Reader) any {
		return func(r *take.Reader) any { return r.Fix(n) }
	}
	text := func(most int) func(r *take.Reader) any {
		return func(r *take.Reader) any { return r.Text(most) }
	}
	one := func(r *take.Reader) any { return r.Int() }
	single := func(r *take.Reader) any { return r.Byte() }
	for _, c := range []struct {
		name, s string
		do      func(r *take.Reader) any
		got     any
		left    int
		e       api.Errno
	}{
		{"Num", "\x05ab", num(5), 5, 2, api.OK},
		{"Num of 0", "\x00", num(0), 0, 0, api.OK},
		{"Num of two bytes", "\x80\x80a", num(128), 128, 1, api.OK},
		{"the greatest Num", huge, num(math.MaxInt), math.MaxInt, 0, api.OK},
		{"Num above most", "\x06ab", num(5), nil, 0, api.ErrLimit},
		{"Num above 0", "\x01", num(0), nil, 0, api.ErrLimit},
		{"0 above a most below 0", "\x00", num(-1), nil, 0, api.ErrLimit},
		{"a Num above the least most", "\x05", num(math.MinInt), nil, 0, api.ErrLimit},
		{"a Num that is no int", beyond, num(math.MaxInt), nil, 0, api.ErrLimit},
		{"the greatest number", greatest, num(math.MaxInt), nil, 0, api.ErrLimit},
		{"the greatest number, most below 0", greatest, num(-1), nil, 0, api.ErrLimit},
		{"Num of nothing", "", num(5), nil, 0, api.ErrForm},
		{"Num cut off", "\x80", num(500), nil, 0, api.ErrForm},
		{"Num of a longer form", "\x80\x05", num(5), nil, 0, api.ErrForm},
		{"no Num, and most below 0", "", num(-1), nil, 0, api.ErrForm},
		{"a longer form above most", "\x80\x06", num(5), nil, 0, api.ErrForm},

		{"Int", "\x06ab", one, int64(3), 2, api.OK},
		{"Int below 0", "\x05", one, int64(-3), 0, api.OK},
		{"the least Int", greatest, one, int64(math.MinInt64), 0, api.OK},
		{"the greatest Int", greatest[:8] + "\xfe", one, int64(math.MaxInt64), 0, api.OK},
		{"Int of nothing", "", one, nil, 0, api.ErrForm},
		{"Int cut off", "\xc0\x40", one, nil, 0, api.ErrForm},
		{"Int of a longer form", "\x80\x06", one, nil, 0, api.ErrForm},

		{"Fix", "abc", fix(2), "ab", 1, api.OK},
		{"Fix of all", "abc", fix(3), "abc", 0, api.OK},
		{"Fix of none", "abc", fix(0), "", 3, api.OK},
		{"Fix of none of none", "", fix(0), "", 0, api.OK},
		{"Fix of more", "abc", fix(4), nil, 0, api.ErrForm},
		{"Fix of the most", "abc", fix(math.MaxInt), nil, 0, api.ErrForm},
		{"Fix below 0", "abc", fix(-1), nil, 0, api.ErrForm},
		{"Fix of the least", "abc", fix(math.MinInt), nil, 0, api.ErrForm},

		{"Byte", "\xfeab", single, byte(0xfe), 2, api.OK},
		{"a Byte of 0", "\x00", single, byte(0), 0, api.OK},
		{"Byte of nothing", "", single, nil, 0, api.ErrForm},

		{"Text", "\x02abc", text(5), "ab", 1, api.OK},
		{"Text of the most", "\x02ab", text(2), "ab", 0, api.OK},
		{"Text of none", "\x00ab", text(0), "", 2, api.OK},
		{"a long Text", "\x80\x80" + strings.Repeat("x", 129), text(128), strings.Repeat("x", 128), 1, api.OK},
		{"Text above most", "\x03abc", text(2), nil, 0, api.ErrLimit},
		{"Text above most, cut off", "\x03", text(2), nil, 0, api.ErrLimit},
		{"Text, most below 0", "\x00", text(-1), nil, 0, api.ErrLimit},
		{"Text cut off", "\x03ab", text(5), nil, 0, api.ErrForm},
		{"Text of a huge length", huge + "ab", text(math.MaxInt), nil, 0, api.ErrForm},
		{"Text of nothing", "", text(5), nil, 0, api.ErrForm},
	} {
		past := false
		e := take.All(c.s, func(r *take.Reader) {
			got := c.do(r)
			past = true
			if got != c.got || r.Left() != c.left {
				t.Errorf("%s = %v, and %d bytes are left", c.name, got, r.Left())
			}
			r.Fix(r.Left())
		})
		if e != c.e || past != (c.e == api.OK) {
			t.Errorf("%s: All = %v, and it went on: %v", c.name, e, past)
		}
	}
}

func TestP4_2_Left(t *testing.T) {
	var l []int
	e := take.All("\x02ab\x80\x80\x05zz", func(r *take.Reader) {
		l = append(l, r.Left(), r.Left())
		r.Text(2)
		l = append(l, r.Left())
		r.Num(200)
		l = append(l, r.Left())
		r.Int()
		l = append(l, r.Left())
		r.Byte()
		l = append(l, r.Left())
		r.Fix(1)
		l = append(l, r.Left())
	})
	if want := []int{8, 8, 5, 3, 2, 1, 0}; e != api.OK || !slices.Equal(l, want) {
		t.Errorf("All = %v, Left %v, want %v", e, l, want)
	}
}

func TestP4_2_Want(t *testing.T) {
	for _, c := range []struct {
		is   bool
		e    api.Errno
		want api.Errno
	}{
		{true, api.OK, api.OK}, {true, api.ErrTree, api.OK}, {true, -7, api.OK},
		{false, api.OK, api.ErrForm}, {false, api.ErrForm, api.ErrForm}, {false, api.ErrTree, api.ErrTree},
		{false, api.ErrClosed, api.ErrClosed}, {false, 99, 99}, {false, -7, -7},
	} {
		past := false
		e := take.All("a", func(r *take.Reader) {
			r.Byte()
			r.Want(c.is, c.e)
			past = true
		})
		if e != c.want || past != c.is {
			t.Errorf("Want(%v, %d): All = %d, and it went on: %v", c.is, int(c.e), int(e), past)
		}
	}
}

func TestP4_3(t *testing.T) {
	for _, c := range []struct{ name, got, want string }{
		{"PutNum(0)", take.PutNum(0), "\x00"},
		{"PutNum(127)", take.PutNum(127), "\x7f"},
		{"PutNum(128)", take.PutNum(128), "\x80\x80"},
		{"PutNum of the greatest", take.PutNum(math.MaxInt), "\xff\x7f\xff\xff\xff\xff\xff\xff\xff"},
		{"PutNum(-1)", take.PutNum(-1), "\x00"},
		{"PutNum of the least", take.PutNum(math.MinInt), "\x00"},
		{"PutInt(0)", take.PutInt(0), "\x00"},
		{"PutInt(-1)", take.PutInt(-1), "\x01"},
		{"PutInt(3)", take.PutInt(3), "\x06"},
		{"PutInt(64)", take.PutInt(64), "\x80\x80"},
		{"PutInt of the least", take.PutInt(math.MinInt64), "\xff\xff\xff\xff\xff\xff\xff\xff\xff"},
		{"PutText of none", take.PutText(""), "\x00"},
		{"PutText", take.PutText("a\x00\xff"), "\x03a\x00\xff"},
		{"PutText of a long one", take.PutText(strings.Repeat("x", 128)), "\x80\x80" + strings.Repeat("x", 128)},
	} {
		if c.got != c.want {
			t.Errorf("%s = %x, want %x", c.name, c.got, c.want)
		}
	}
}

func TestP4_4(t *testing.T) {
	nums := []int{0, 1, 127, 128, 16383, 16384, 1 << 40, math.MaxInt}
	ints := []int64{0, -1, 1, 63, -64, 64, -65, math.MaxInt64, math.MinInt64}
	texts := []string{"", "a", "\x00", strings.Repeat("\xff", 127), strings.Repeat("é", 64), strings.Repeat("long", 5000)}
	var b strings.Builder
	for _, n := range nums {
		b.WriteString(take.PutNum(n))
	}
	for _, n := range ints {
		b.WriteString(take.PutInt(n))
	}
	for _, s := range texts {
		b.WriteString(take.PutText(s))
	}
	e := take.All(b.String(), func(r *take.Reader) {
		for _, n := range nums {
			if got := r.Num(n); got != n {
				t.Errorf("Num = %d, want %d", got, n)
			}
		}
		for _, n := range ints {
			if got := r.Int(); got != n {
				t.Errorf("Int = %d, want %d", got, n)
			}
		}
		for _, s := range texts {
			if got := r.Text(len(s)); got != s {
				t.Errorf("Text = %q, want %q", got, s)
			}
		}
	})
	if e != api.OK {
		t.Errorf("All = %v", e)
	}
}
