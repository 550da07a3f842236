package room_test

import (
	"math"
	"math/rand"
	"slices"
	"testing"

	"pithead/api"
	"pithead/room"
)

func fresh(t *testing.T, n int) *room.Room {
	t.Helper()
	r, e := room.New(n)
	if e != api.OK || r == nil {
		t.Fatalf("New(%d) = %v", n, e)
	}
	return r
}

// used are the pages in use, of the first so many numbers.
func used(r *room.Room, n int) []int {
	var l []int
	for i := -2; i < n+200; i++ {
		if r.Used(i) {
			l = append(l, i)
		}
	}
	return l
}

// wantUsed: of a room of so many pages just these are in use.
func wantUsed(t *testing.T, what string, r *room.Room, size int, l ...int) {
	t.Helper()
	if got := used(r, size); !slices.Equal(got, l) {
		t.Errorf("%s: %v are in use, want %v", what, got, l)
	}
	if got := r.Count(); got != size-len(l) {
		t.Errorf("%s: Count = %d, want %d", what, got, size-len(l))
	}
}

func want(t *testing.T, what string, got, want api.Errno) {
	t.Helper()
	if got != want {
		t.Errorf("%s = %v, want %v", what, got, want)
	}
}

func TestP10_1_New(t *testing.T) {
	for _, n := range []int{1, 2, 63, 64, 65, 128, 2046, 2047} {
		wantUsed(t, "New", fresh(t, n), n)
	}
	for _, n := range []int{0, -1, 2048, math.MinInt, math.MaxInt} {
		if r, e := room.New(n); r != nil || e != api.ErrArg {
			t.Errorf("New(%d) = %v, %v", n, r, e)
		}
	}
}

func TestP10_1_Used(t *testing.T) {
	for _, n := range []int{1, 64, 100, 2047} {
		r := fresh(t, n)
		r.Take(n)
		for _, i := range []int{-1, n, n + 1, n + 64, 2047, 2048, 5000, math.MinInt, math.MaxInt} {
			if i != n-1 && r.Used(i) {
				t.Errorf("of %d pages %d is in use", n, i)
			}
		}
		if !r.Used(0) || !r.Used(n-1) {
			t.Errorf("of %d pages not all are in use", n)
		}
	}
}

func TestP10_1_Use(t *testing.T) {
	for _, c := range []struct {
		name string
		l    []int
		e    api.Errno
	}{
		{"none", nil, api.OK},
		{"one", []int{0}, api.OK},
		{"several, in no order", []int{99, 0, 63, 64}, api.OK},
		{"one that is in use", []int{5}, api.ErrTwice},
		{"one that is in use, behind others", []int{0, 1, 70}, api.ErrTwice},
		{"one twice", []int{0, 0}, api.ErrTwice},
		{"one three times", []int{0, 1, 2, 1, 1}, api.ErrTwice},
		{"below 0", []int{-1}, api.ErrRange},
		{"beyond the end", []int{100}, api.ErrRange},
		{"beyond the end, behind others", []int{0, 1, 100}, api.ErrRange},
		{"the least", []int{math.MinInt}, api.ErrRange},
		{"the greatest", []int{math.MaxInt}, api.ErrRange},
		{"in the room's last word", []int{127}, api.ErrRange},
		{"beyond the end ahead of one in use", []int{100, 5}, api.ErrRange},
		{"one in use ahead of one beyond the end", []int{5, 100}, api.ErrTwice},
		{"one twice ahead of one beyond the end", []int{0, 0, 100}, api.ErrTwice},
		{"one beyond the end ahead of one twice", []int{0, -1, 0}, api.ErrRange},
	} {
		r := fresh(t, 100)
		want(t, c.name+": Use", r.Use(5, 70), api.OK)
		l := slices.Clone(c.l)
		want(t, c.name+": Use", r.Use(l...), c.e)
		if !slices.Equal(l, c.l) {
			t.Errorf("%s: Use has changed what it was given", c.name)
		}
		now := []int{5, 70}
		if c.e == api.OK {
			now = append(now, c.l...)
			slices.Sort(now)
		}
		wantUsed(t, c.name, r, 100, now...)
	}
}

func TestP10_1_Free(t *testing.T) {
	for _, c := range []struct {
		name string
		l    []int
		left []int
		e    api.Errno
	}{
		{"none", nil, []int{0, 5, 63, 64, 99}, api.OK},
		{"one", []int{63}, []int{0, 5, 64, 99}, api.OK},
		{"all, in no order", []int{99, 64, 0, 63, 5}, nil, api.OK},
		{"one that is free", []int{1}, []int{0, 5, 63, 64, 99}, api.ErrNone},
		{"one that is free, behind others", []int{0, 5, 1}, []int{0, 5, 63, 64, 99}, api.ErrNone},
		{"one twice", []int{5, 5}, []int{0, 5, 63, 64, 99}, api.ErrNone},
		{"below 0", []int{0, -1}, []int{0, 5, 63, 64, 99}, api.ErrRange},
		{"beyond the end", []int{0, 100}, []int{0, 5, 63, 64, 99}, api.ErrRange},
		{"the least", []int{math.MinInt}, []int{0, 5, 63, 64, 99}, api.ErrRange},
		{"the greatest", []int{math.MaxInt}, []int{0, 5, 63, 64, 99}, api.ErrRange},
		{"beyond the end ahead of one that is free", []int{100, 1}, []int{0, 5, 63, 64, 99}, api.ErrRange},
		{"one that is free ahead of one beyond the end", []int{1, 100}, []int{0, 5, 63, 64, 99}, api.ErrNone},
		{"one twice ahead of one beyond the end", []int{5, 5, 100}, []int{0, 5, 63, 64, 99}, api.ErrNone},
	} {
		r := fresh(t, 100)
		r.Use(0, 5, 63, 64, 99)
		l := slices.Clone(c.l)
		want(t, c.name+": Free", r.Free(l...), c.e)
		if !slices.Equal(l, c.l) {
			t.Errorf("%s: Free has changed what it was given", c.name)
		}
		wantUsed(t, c.name, r, 100, c.left...)
	}
}

func TestP10_1_NoRoom(t *testing.T) {
	made := fresh(t, 10)
	made.Use(1)
	copied := *made
	for name, r := range map[string]*room.Room{"nil": nil, "a plain one": {}, "a copy": &copied} {
		for _, i := range []int{0, 1, -1, math.MaxInt} {
			if r.Used(i) || r.Count() != 0 {
				t.Errorf("%s: Used(%d) = %v, Count = %d", name, i, r.Used(i), r.Count())
			}
			want(t, name+": Use", r.Use(i), api.ErrNil)
			want(t, name+": Free", r.Free(i), api.ErrNil)
			if l, e := r.Lowest(i); len(l) != 0 || e != api.ErrNil {
				t.Errorf("%s: Lowest(%d) = %v, %v", name, i, l, e)
			}
			if l, e := r.Take(i); len(l) != 0 || e != api.ErrNil {
				t.Errorf("%s: Take(%d) = %v, %v", name, i, l, e)
			}
		}
		want(t, name+": Use of none", r.Use(), api.ErrNil)
		want(t, name+": Free of none", r.Free(), api.ErrNil)
	}
	wantUsed(t, "behind a copy's calls", made, 10, 1)
}

func TestP10_2_Lowest(t *testing.T) {
	r := fresh(t, 4)
	r.Use(1)
	for _, c := range []struct {
		n int
		l []int
		e api.Errno
	}{
		{0, nil, api.OK}, {1, []int{0}, api.OK}, {2, []int{0, 2}, api.OK}, {3, []int{0, 2, 3}, api.OK},
		{4, nil, api.ErrFull}, {5, nil, api.ErrFull}, {math.MaxInt, nil, api.ErrFull},
		{-1, nil, api.ErrArg}, {math.MinInt, nil, api.ErrArg},
	} {
		if l, e := r.Lowest(c.n); !slices.Equal(l, c.l) || e != c.e {
			t.Errorf("Lowest(%d) = %v, %v, want %v, %v", c.n, l, e, c.l, c.e)
		}
		wantUsed(t, "behind Lowest", r, 4, 1)
	}
	r.Use(0, 2, 3)
	if l, e := r.Lowest(0); len(l) != 0 || e != api.OK {
		t.Errorf("none of none: %v, %v", l, e)
	}
	if l, e := r.Lowest(1); len(l) != 0 || e != api.ErrFull {
		t.Errorf("one of none: %v, %v", l, e)
	}
	if l, e := r.Lowest(-1); len(l) != 0 || e != api.ErrArg {
		t.Errorf("fewer than none of none: %v, %v", l, e)
	}
}

func TestP10_2_Take(t *testing.T) {
	r := fresh(t, 130)
	r.Use(0, 64, 65, 129)
	for _, c := range []struct {
		n int
		e api.Errno
	}{{127, api.ErrFull}, {math.MaxInt, api.ErrFull}, {-1, api.ErrArg}, {math.MinInt, api.ErrArg}, {0, api.OK}} {
		if l, e := r.Take(c.n); len(l) != 0 || e != c.e {
			t.Errorf("Take(%d) = %v, %v", c.n, l, e)
		}
		wantUsed(t, "behind a Take of nothing", r, 130, 0, 64, 65, 129)
	}
	lowest, _ := r.Lowest(64)
	l, e := r.Take(64)
	if e != api.OK || !slices.Equal(l, lowest) || l[0] != 1 || l[62] != 63 || l[63] != 66 {
		t.Errorf("Take(64) = %v, %v", l, e)
	}
	if r.Count() != 62 || !r.Used(1) || !r.Used(63) || !r.Used(66) || r.Used(67) {
		t.Error("Take has taken other ones")
	}
	if l, e := r.Take(62); e != api.OK || len(l) != 62 || l[0] != 67 || l[61] != 128 || r.Count() != 0 {
		t.Errorf("all that are left: %v, %v", l, e)
	}
}

// TestP10_2_New: what is answered is new memory, spare room too.
func TestP10_2_New(t *testing.T) {
	r := fresh(t, 100)
	a, _ := r.Lowest(70)
	for i := range a[:cap(a)] {
		a[:cap(a)][i] = -9
	}
	b, _ := r.Take(70)
	for i := range b[:cap(b)] {
		b[:cap(b)][i] = -9
	}
	if l, e := r.Lowest(1); e != api.OK || !slices.Equal(l, []int{70}) || r.Count() != 30 {
		t.Errorf("behind changes of answers: Lowest = %v, %v", l, e)
	}
}

func TestP10_2_Apart(t *testing.T) {
	a, b := fresh(t, 10), fresh(t, 10)
	a.Take(10)
	wantUsed(t, "a room beside one that is full", b, 10)
}

// TestP10_3: what was taken is not taken again, till it is freed.
func TestP10_3(t *testing.T) {
	r := rand.New(rand.NewSource(103))
	for _, size := range []int{1, 7, 64, 65, 300, 2047} {
		o := fresh(t, size)
		mine := make([]bool, size)
		for range 60 {
			n := r.Intn(size + 1)
			l, e := o.Take(n)
			if (e == api.OK) != (len(l) == n) || e != api.OK && e != api.ErrFull || !slices.IsSorted(l) {
				t.Fatalf("Take(%d) = %v, %v", n, l, e)
			}
			for _, i := range l {
				if mine[i] {
					t.Fatalf("%d is taken again", i)
				}
				mine[i] = true
			}
			if n > 0 && len(l) == n && slices.Contains(mine[:l[n-1]], false) {
				t.Fatalf("Take(%d) has left a lesser one", n)
			}
			var back []int
			for i := range size {
				if mine[i] && r.Intn(2) == 0 {
					back = append(back, i)
					mine[i] = false
				}
			}
			r.Shuffle(len(back), func(i, j int) { back[i], back[j] = back[j], back[i] })
			want(t, "Free", o.Free(back...), api.OK)
			var now []int
			for i, is := range mine {
				if is {
					now = append(now, i)
				}
			}
			wantUsed(t, "behind Take and Free", o, size, now...)
		}
	}
}
