package device_test

import (
	"math"
	"math/rand"
	"slices"
	"strings"
	"testing"

	"pithead/api"
	"pithead/device"
)

// full is a sector that begins with a text.
func full(s string) string { return s + strings.Repeat("\x00", api.Sector-len(s)) }

// of is a sector of one byte, all over.
func of(b byte) string { return strings.Repeat(string([]byte{b}), api.Sector) }

// blank is so many sectors of noughts.
func blank(n int) []string { return slices.Repeat([]string{full("")}, n) }

func fresh(t *testing.T, n int) *device.Device {
	t.Helper()
	d, e := device.New(n)
	if e != api.OK || d == nil {
		t.Fatalf("New(%d) = %v", n, e)
	}
	return d
}

// loaded is a device of 16 sectors, each of its number all over, that has writes that are not sure.
func loaded(t *testing.T, puts ...api.Put) *device.Device {
	t.Helper()
	var x api.Image
	for i := range 16 {
		x.Sectors = append(x.Sectors, of(byte(i)))
	}
	x.Puts = puts
	d, e := device.Load(x)
	if e != api.OK || d == nil {
		t.Fatalf("Load = %v", e)
	}
	return d
}

func wantRead(t *testing.T, d *device.Device, i int, want string) {
	t.Helper()
	if s, e := d.Read(i); s != want || e != api.OK {
		t.Errorf("Read(%d) = %q, %v, want %q", i, s, e, want)
	}
}

func want(t *testing.T, what string, got, want api.Errno) {
	t.Helper()
	if got != want {
		t.Errorf("%s = %v, want %v", what, got, want)
	}
}

func sameImage(a, b api.Image) bool {
	return slices.Equal(a.Sectors, b.Sectors) && slices.Equal(a.Puts, b.Puts)
}

func TestP7_1_New(t *testing.T) {
	for _, n := range []int{16, 17, 100, 4095, 4096} {
		d := fresh(t, n)
		if d.Size() != n || d.Off() || d.Reads() != 0 || d.Steps() != 0 {
			t.Errorf("New(%d): %d sectors, off %v, %d reads, %d steps", n, d.Size(), d.Off(), d.Reads(), d.Steps())
		}
		if x := d.Seize(); !sameImage(x, api.Image{Sectors: blank(n)}) {
			t.Errorf("New(%d) has other than noughts", n)
		}
		wantRead(t, d, n-1, full(""))
	}
	for _, n := range []int{math.MinInt, -16, -1, 0, 1, 15, 4097, 1 << 40, math.MaxInt} {
		if d, e := device.New(n); d != nil || e != api.ErrArg {
			t.Errorf("New(%d) = %v, %v", n, d, e)
		}
	}
}

func TestP7_1_Check(t *testing.T) {
	short, long := strings.Repeat("a", 127), strings.Repeat("a", 129)
	with := func(i int, s string) []string {
		l := blank(16)
		l[i] = s
		return l
	}
	good := api.Put{At: 15, Data: of('a')}
	for _, c := range []struct {
		name string
		x    api.Image
		e    api.Errno
	}{
		{"the least", api.Image{Sectors: blank(16)}, api.OK},
		{"the most", api.Image{Sectors: blank(4096)}, api.OK},
		{"with writes", api.Image{Sectors: blank(16), Puts: []api.Put{good, {At: 0, Data: of(0)}, good}}, api.OK},
		{"more writes than sectors", api.Image{Sectors: blank(16), Puts: slices.Repeat([]api.Put{good}, 5000)}, api.OK},
		{"nothing", api.Image{}, api.ErrArg},
		{"15 sectors", api.Image{Sectors: blank(15)}, api.ErrArg},
		{"4097 sectors", api.Image{Sectors: blank(4097)}, api.ErrArg},
		{"15 sectors, all else wrong too", api.Image{Sectors: make([]string, 15), Puts: []api.Put{{At: -1}}}, api.ErrArg},
		{"a short sector", api.Image{Sectors: with(3, short)}, api.ErrForm},
		{"a long sector", api.Image{Sectors: with(15, long)}, api.ErrForm},
		{"an empty sector", api.Image{Sectors: with(0, "")}, api.ErrForm},
		{"a short sector ahead of a write's place", api.Image{Sectors: with(15, short), Puts: []api.Put{{At: 16, Data: of(0)}}}, api.ErrForm},
		{"a write behind the end", api.Image{Sectors: blank(16), Puts: []api.Put{good, {At: 16, Data: of(0)}}}, api.ErrRange},
		{"a write below 0", api.Image{Sectors: blank(16), Puts: []api.Put{{At: -1, Data: of(0)}}}, api.ErrRange},
		{"a write far below", api.Image{Sectors: blank(16), Puts: []api.Put{{At: math.MinInt, Data: of(0)}}}, api.ErrRange},
		{"a write far behind", api.Image{Sectors: blank(16), Puts: []api.Put{{At: math.MaxInt, Data: of(0)}}}, api.ErrRange},
		{"a short write", api.Image{Sectors: blank(16), Puts: []api.Put{good, {At: 0, Data: short}}}, api.ErrForm},
		{"a long write", api.Image{Sectors: blank(16), Puts: []api.Put{{At: 0, Data: long}}}, api.ErrForm},
		{"an empty write", api.Image{Sectors: blank(16), Puts: []api.Put{{}}}, api.ErrForm},
		{"a write of which both are wrong", api.Image{Sectors: blank(16), Puts: []api.Put{{At: 16, Data: short}}}, api.ErrRange},
		{"a short write ahead of one behind the end", api.Image{Sectors: blank(16), Puts: []api.Put{{At: 0, Data: short}, {At: 16, Data: of(0)}}}, api.ErrForm},
		{"a write behind the end ahead of a short one", api.Image{Sectors: blank(16), Puts: []api.Put{{At: 16, Data: of(0)}, {At: 0, Data: short}}}, api.ErrRange},
	} {
		want(t, "Check of "+c.name, device.Check(c.x), c.e)
		d, e := device.Load(c.x)
		want(t, "Load of "+c.name, e, c.e)
		if (d == nil) != (c.e != api.OK) {
			t.Errorf("Load of %s: %v", c.name, d)
		}
		if d != nil && !sameImage(d.Seize(), c.x) {
			t.Errorf("Load of %s has another image", c.name)
		}
	}
}

func TestP7_1_Load(t *testing.T) {
	d := loaded(t, api.Put{At: 2, Data: of('a')}, api.Put{At: 2, Data: of('b')}, api.Put{At: 3, Data: of('c')})
	if d.Size() != 16 || d.Off() || d.Reads() != 0 || d.Steps() != 0 {
		t.Errorf("Load: %d sectors, off %v, %d reads, %d steps", d.Size(), d.Off(), d.Reads(), d.Steps())
	}
	for i, s := range map[int]string{0: of(0), 1: of(1), 2: of('b'), 3: of('c'), 15: of(15)} {
		wantRead(t, d, i, s)
	}
	for range 10 { // no fuse
		want(t, "Sync", d.Sync(), api.OK)
	}
	want(t, "Cut", d.Cut(nil, 0, 0), api.OK)
	other, e := device.Load(d.Seize())
	if e != api.OK || other.Off() {
		t.Errorf("a device that was off is loaded: %v, off %v", e, other.Off())
	}
}

// TestP7_1_LoadIsNew: what was handed in is not kept, and what is told is a copy; the room behind the lists' ends, too.
func TestP7_1_LoadIsNew(t *testing.T) {
	x := api.Image{Sectors: blank(20)[:16], Puts: make([]api.Put, 1, 8)}
	x.Puts[0] = api.Put{At: 1, Data: of('a')}
	for i := range 4 {
		x.Sectors[:20][16+i] = of('s')
	}
	d, e := device.Load(x)
	want(t, "Load", e, api.OK)
	want(t, "Write", d.Write(3, of('w')), api.OK)
	if x.Puts[:2][1] != (api.Put{}) || x.Sectors[:20][16] != of('s') {
		t.Error("a Write has changed the room behind what was handed in")
	}
	want(t, "Sync", d.Sync(), api.OK)
	if x.Sectors[1] != full("") || x.Sectors[3] != full("") {
		t.Error("a Sync has changed what was handed in")
	}
	x.Sectors[1], x.Puts[0] = "", api.Put{}
	wantRead(t, d, 1, of('a'))

	d = loaded(t, api.Put{At: 1, Data: of('a')})
	y := d.Seize()
	spoil(y)
	if z := d.Seize(); z.Sectors[0] != of(0) || len(z.Puts) != 1 || z.Puts[0] != (api.Put{At: 1, Data: of('a')}) {
		t.Error("a change of what Seize answered is a change of the device")
	}
	want(t, "Write", d.Write(2, of('b')), api.OK)
	y = d.Seize()
	spoil(y)
	want(t, "Write", d.Write(3, of('c')), api.OK)
	if z := d.Seize(); len(z.Puts) != 3 || z.Puts[2] != (api.Put{At: 3, Data: of('c')}) || len(y.Puts) != 2 || y.Puts[1].Data != "spoilt" {
		t.Error("what Seize answered is shared with the device")
	}
}

// spoil changes all that an image's lists have, and what is behind their ends.
func spoil(x api.Image) {
	for i := range x.Sectors[:cap(x.Sectors)] {
		x.Sectors[:cap(x.Sectors)][i] = "spoilt"
	}
	for i := range x.Puts[:cap(x.Puts)] {
		x.Puts[:cap(x.Puts)][i] = api.Put{At: -7, Data: "spoilt"}
	}
}

func TestP7_1_NoDevice(t *testing.T) {
	made := loaded(t, api.Put{At: 1, Data: of('a')})
	before := made.Seize()
	copied := *made
	for name, d := range map[string]*device.Device{"nil": nil, "a plain one": {}, "a copy": &copied} {
		if d.Size() != 0 || d.Off() || d.Reads() != 0 || d.Steps() != 0 || !sameImage(d.Seize(), api.Image{}) {
			t.Errorf("%s: not all is zero", name)
		}
		for _, i := range []int{0, -1, math.MaxInt} {
			s, e := d.Read(i)
			if s != "" {
				t.Errorf("%s: Read = %q", name, s)
			}
			want(t, name+": Read", e, api.ErrNil)
			want(t, name+": Write", d.Write(i, of('z')), api.ErrNil)
			want(t, name+": Write of too few", d.Write(i, ""), api.ErrNil)
			want(t, name+": Fuse", d.Fuse(i), api.ErrNil)
			want(t, name+": Cut", d.Cut([]int{i}, i, i), api.ErrNil)
		}
		want(t, name+": Sync", d.Sync(), api.ErrNil)
		want(t, name+": Boot", d.Boot(), api.ErrNil)
		if d.Off() || d.Steps() != 0 || d.Size() != 0 {
			t.Errorf("%s: a call has done something", name)
		}
	}
	if !sameImage(made.Seize(), before) || made.Steps() != 0 || made.Off() {
		t.Error("a copy's calls have changed the device")
	}
}

func TestP7_1_Apart(t *testing.T) {
	a, b := fresh(t, 16), fresh(t, 16)
	a.Write(3, of('a'))
	a.Sync()
	a.Write(4, of('a'))
	a.Fuse(1)
	a.Sync()
	if b.Off() || b.Steps() != 0 || !sameImage(b.Seize(), api.Image{Sectors: blank(16)}) {
		t.Error("a device knows of another one")
	}
}

func TestP7_2_ReadWrite(t *testing.T) {
	d := fresh(t, 16)
	for _, i := range []int{-1, 16, math.MinInt, math.MaxInt} {
		s, e := d.Read(i)
		if s != "" {
			t.Errorf("Read(%d) = %q", i, s)
		}
		want(t, "Read of no sector", e, api.ErrRange)
		want(t, "Write of no sector", d.Write(i, of('a')), api.ErrRange)
		want(t, "Write of no sector, of too few bytes", d.Write(i, ""), api.ErrRange)
	}
	for _, n := range []int{0, 1, 127, 129, 256} {
		want(t, "Write of another number of bytes", d.Write(0, strings.Repeat("a", n)), api.ErrArg)
	}
	if d.Reads() != 0 || d.Steps() != 0 || !sameImage(d.Seize(), api.Image{Sectors: blank(16)}) {
		t.Error("what was refused has changed something")
	}
	want(t, "Write", d.Write(0, of('a')), api.OK)
	want(t, "Write", d.Write(15, of('b')), api.OK)
	want(t, "Write", d.Write(0, of('c')), api.OK)
	wantRead(t, d, 0, of('c'))
	wantRead(t, d, 15, of('b'))
	wantRead(t, d, 1, full(""))
	puts := []api.Put{{At: 0, Data: of('a')}, {At: 15, Data: of('b')}, {At: 0, Data: of('c')}}
	if !sameImage(d.Seize(), api.Image{Sectors: blank(16), Puts: puts}) {
		t.Error("Writes are not Puts in order")
	}
	want(t, "Sync", d.Sync(), api.OK)
	sectors := blank(16)
	sectors[0], sectors[15] = of('c'), of('b')
	if !sameImage(d.Seize(), api.Image{Sectors: sectors}) {
		t.Error("Sync has not laid all Puts, in order")
	}
	wantRead(t, d, 0, of('c'))
}

func TestP7_2_Counts(t *testing.T) {
	d := fresh(t, 16)
	d.Read(0)
	d.Read(16)
	d.Read(15)
	d.Write(3, of('a'))
	d.Write(3, "a")
	d.Sync()
	d.Sync()
	d.Read(3)
	if d.Reads() != 3 || d.Steps() != 3 {
		t.Errorf("%d reads, %d steps, want 3, 3", d.Reads(), d.Steps())
	}
	d.Cut(nil, 0, 0)
	d.Read(0)
	d.Write(3, of('a'))
	d.Sync()
	d.Boot()
	if d.Reads() != 3 || d.Steps() != 3 {
		t.Errorf("behind a Cut and a Boot %d reads, %d steps, want 3, 3", d.Reads(), d.Steps())
	}
	d.Read(0)
	d.Sync()
	if d.Reads() != 4 || d.Steps() != 4 {
		t.Errorf("%d reads, %d steps, want 4, 4", d.Reads(), d.Steps())
	}
}

func TestP7_2_Down(t *testing.T) {
	d := loaded(t, api.Put{At: 1, Data: of('a')})
	want(t, "Cut", d.Cut(nil, -1, 0), api.OK)
	if !d.Off() {
		t.Error("power behind a Cut")
	}
	before := d.Seize()
	for _, i := range []int{0, -1, 16} {
		s, e := d.Read(i)
		if s != "" {
			t.Errorf("Read without power = %q", s)
		}
		want(t, "Read without power", e, api.ErrDown)
		want(t, "Write without power", d.Write(i, of('z')), api.ErrDown)
		want(t, "Write of too few without power", d.Write(i, ""), api.ErrDown)
		want(t, "Fuse without power", d.Fuse(i), api.ErrDown)
	}
	want(t, "Sync without power", d.Sync(), api.ErrDown)
	if d.Reads() != 0 || d.Steps() != 0 || !d.Off() || !sameImage(d.Seize(), before) || d.Size() != 16 {
		t.Error("without power something was done")
	}
}

func TestP7_2_Fuse(t *testing.T) {
	for _, n := range []int{1, 2, 3, 7} {
		d := fresh(t, 16)
		want(t, "Fuse", d.Fuse(n), api.OK)
		for i := range n - 1 {
			if i%2 == 0 {
				want(t, "Write within the fuse", d.Write(i, of('a')), api.OK)
			} else {
				want(t, "Sync within the fuse", d.Sync(), api.OK)
			}
			want(t, "Write of too few", d.Write(i, "a"), api.ErrArg)
			want(t, "Write of no sector", d.Write(16, of('a')), api.ErrRange)
			wantRead(t, d, 15, full(""))
		}
		before := d.Seize()
		if n%2 == 1 {
			want(t, "Write at the fuse's end", d.Write(0, of('b')), api.ErrDown)
		} else {
			want(t, "Sync at the fuse's end", d.Sync(), api.ErrDown)
		}
		if !d.Off() || d.Steps() != n-1 || !sameImage(d.Seize(), before) {
			t.Errorf("a fuse of %d: off %v, %d steps; or the last one was done", n, d.Off(), d.Steps())
		}
		want(t, "Boot", d.Boot(), api.OK)
		for range 2 * n {
			want(t, "Sync behind the fuse", d.Sync(), api.OK)
		}
	}
}

func TestP7_2_FuseIsSet(t *testing.T) {
	d := fresh(t, 16)
	for _, n := range []int{-1, -2, math.MinInt} {
		want(t, "Fuse below 0", d.Fuse(n), api.ErrArg)
	}
	want(t, "Sync behind a Fuse that was refused", d.Sync(), api.OK)
	d.Fuse(2)
	want(t, "Fuse below 0", d.Fuse(-1), api.ErrArg)
	want(t, "Sync", d.Sync(), api.OK)
	want(t, "Sync at the end of the fuse that stays", d.Sync(), api.ErrDown)
	d.Boot()
	d.Fuse(1)
	want(t, "Fuse of 0", d.Fuse(0), api.OK)
	for range 5 {
		want(t, "Sync without a fuse", d.Sync(), api.OK)
	}
	d.Fuse(1)
	d.Fuse(3)
	want(t, "Sync", d.Sync(), api.OK)
	want(t, "Sync", d.Sync(), api.OK)
	want(t, "Sync at the end of the later fuse", d.Sync(), api.ErrDown)
	d.Boot()
	want(t, "the greatest fuse", d.Fuse(math.MaxInt), api.OK)
	for range 100 {
		want(t, "Sync", d.Sync(), api.OK)
	}
}

func TestP7_3_Cut(t *testing.T) {
	puts := []api.Put{{At: 3, Data: of('a')}, {At: 5, Data: of('b')}, {At: 3, Data: of('c')}, {At: 7, Data: of('d')}}
	mixed := func(n int, a, b string) string { return a[:n] + b[n:] }
	for _, c := range []struct {
		name        string
		keep        []int
		torn, bytes int
		three       string
		five, seven string
	}{
		{"nothing", nil, -1, 0, of(3), of(5), of(7)},
		{"all", []int{0, 1, 2, 3}, -1, 0, of('c'), of('b'), of('d')},
		{"all, told backwards: laid in the Puts' order", []int{3, 2, 1, 0}, 4, 9, of('c'), of('b'), of('d')},
		{"the first", []int{0}, -1, 5, of('a'), of(5), of(7)},
		{"a later one alone", []int{2}, -1, 5, of('c'), of(5), of(7)},
		{"told twice", []int{1, 1, 1}, 9, 5, of(3), of('b'), of(7)},
		{"places that are none", []int{-1, 4, math.MinInt, math.MaxInt, 3}, math.MinInt, 5, of(3), of(5), of('d')},
		{"torn", nil, 1, 1, of(3), mixed(1, of('b'), of(5)), of(7)},
		{"torn but for a byte", nil, 3, 127, of(3), of(5), mixed(127, of('d'), of(7))},
		{"torn, all of it", nil, 3, 128, of(3), of(5), of('d')},
		{"torn, more than all", nil, 3, 129, of(3), of(5), of('d')},
		{"torn, the most", nil, 3, math.MaxInt, of(3), of(5), of('d')},
		{"torn, none of it", nil, 3, 0, of(3), of(5), of(7)},
		{"torn, less than none", nil, 3, -1, of(3), of(5), of(7)},
		{"torn, the least", nil, 3, math.MinInt, of(3), of(5), of(7)},
		{"torn, but kept", []int{1}, 1, 1, of(3), of('b'), of(7)},
		{"torn over one that is kept", []int{0}, 2, 2, mixed(2, of('c'), of('a')), of(5), of(7)},
		{"torn below one that is kept", []int{2}, 0, 2, of('c'), of(5), of(7)},
		{"torn, of a sector whose later write is lost", []int{3}, 0, 64, mixed(64, of('a'), of(3)), of(5), of('d')},
		{"torn at no place", []int{1}, 4, 64, of(3), of('b'), of(7)},
		{"torn far away", []int{1}, math.MaxInt, 64, of(3), of('b'), of(7)},
	} {
		d := loaded(t, puts...)
		d.Fuse(9)
		keep := slices.Clone(c.keep)
		want(t, c.name+": Cut", d.Cut(keep, c.torn, c.bytes), api.OK)
		if !slices.Equal(keep, c.keep) {
			t.Errorf("%s: Cut has changed what it was given", c.name)
		}
		var sectors []string
		for i := range 16 {
			sectors = append(sectors, of(byte(i)))
		}
		sectors[3], sectors[5], sectors[7] = c.three, c.five, c.seven
		if !d.Off() || !sameImage(d.Seize(), api.Image{Sectors: sectors}) {
			t.Errorf("%s: off %v, and the sectors are %q", c.name, d.Off(), d.Seize().Sectors)
		}
		want(t, c.name+": Boot", d.Boot(), api.OK)
		if d.Off() || !sameImage(d.Seize(), api.Image{Sectors: sectors}) {
			t.Errorf("%s: Boot has changed the sectors", c.name)
		}
		for range 12 { // a Cut leaves no fuse
			want(t, c.name+": Sync", d.Sync(), api.OK)
		}
	}
}

func TestP7_3_CutWithoutPower(t *testing.T) {
	d := loaded(t, api.Put{At: 3, Data: of('a')})
	d.Fuse(2)
	want(t, "Write", d.Write(4, of('b')), api.OK)
	want(t, "Sync", d.Sync(), api.ErrDown)
	if x := d.Seize(); len(x.Puts) != 2 {
		t.Fatalf("the fuse has left %d Puts", len(x.Puts))
	}
	want(t, "Cut", d.Cut([]int{1}, 0, 1), api.OK)
	want(t, "Cut again", d.Cut([]int{0, 1}, 0, 9), api.OK)
	d.Boot()
	wantRead(t, d, 3, "a"+of(3)[1:])
	wantRead(t, d, 4, of('b'))
}

func TestP7_3_Boot(t *testing.T) {
	d := loaded(t, api.Put{At: 3, Data: of('a')})
	d.Fuse(1)
	want(t, "Boot with power", d.Boot(), api.OK)
	if d.Off() || len(d.Seize().Puts) != 0 {
		t.Error("Boot has left Puts, or no power")
	}
	wantRead(t, d, 3, of(3))
	want(t, "Sync: Boot leaves no fuse", d.Sync(), api.OK)
	d.Write(3, of('b'))
	d.Fuse(1)
	d.Sync()
	want(t, "Boot without power", d.Boot(), api.OK)
	if d.Off() || len(d.Seize().Puts) != 0 {
		t.Error("Boot has left Puts, or no power")
	}
	wantRead(t, d, 3, of(3))
}

// plain is a device as the document tells it, told once more.
type plain struct {
	sectors []string
	puts    []api.Put
	off     bool
	fuse    int
	steps   int
}

func (p *plain) step(do func()) api.Errno {
	if p.off {
		return api.ErrDown
	}
	if p.fuse == 1 {
		p.off, p.fuse = true, 0
		return api.ErrDown
	}
	if p.fuse > 0 {
		p.fuse--
	}
	p.steps++
	do()
	return api.OK
}

func (p *plain) cut(keep []int, torn, bytes int) {
	for i, q := range p.puts {
		if slices.Contains(keep, i) {
			p.sectors[q.At] = q.Data
		} else if i == torn {
			n := min(max(bytes, 0), 128)
			p.sectors[q.At] = q.Data[:n] + p.sectors[q.At][n:]
		}
	}
	*p = plain{sectors: p.sectors, off: true, steps: p.steps}
}

// TestP7_2_AsPlain: whatever is done, the device is as the document tells.
func TestP7_2_AsPlain(t *testing.T) {
	r := rand.New(rand.NewSource(71))
	for range 50 {
		d, p := fresh(t, 16), &plain{sectors: blank(16)}
		for range 200 {
			switch r.Intn(12) {
			case 0:
				want(t, "Sync", d.Sync(), p.step(func() {
					for _, q := range p.puts {
						p.sectors[q.At] = q.Data
					}
					p.puts = nil
				}))
			case 1:
				if n := r.Intn(8); d.Fuse(n) == api.OK {
					p.fuse = n
				}
			case 2:
				keep, torn, bytes := []int{r.Intn(4), r.Intn(8)}, r.Intn(6)-1, r.Intn(150)-10
				want(t, "Cut", d.Cut(keep, torn, bytes), api.OK)
				p.cut(keep, torn, bytes)
			case 3, 4:
				want(t, "Boot", d.Boot(), api.OK)
				*p = plain{sectors: p.sectors, steps: p.steps}
			default:
				q := api.Put{At: r.Intn(5), Data: of(byte(r.Intn(256)))}
				want(t, "Write", d.Write(q.At, q.Data), p.step(func() { p.puts = append(p.puts, q) }))
			}
			if !sameImage(d.Seize(), api.Image{Sectors: p.sectors, Puts: p.puts}) || d.Off() != p.off || d.Steps() != p.steps {
				t.Fatal("the device is not as the document tells")
			}
		}
	}
}

// TestP7_4: a sector is behind a Cut what it was, what one of its Puts has, or, of one, the beginning of one and the rest of that.
func TestP7_4(t *testing.T) {
	r := rand.New(rand.NewSource(74))
	for range 400 {
		d := fresh(t, 16)
		may := make([][]string, 16)
		for i := range 16 {
			s := of(byte(r.Intn(256)))
			d.Write(i, s)
			may[i] = []string{s}
		}
		want(t, "Sync", d.Sync(), api.OK)
		n := r.Intn(12)
		for range n {
			i, s := r.Intn(6), of(byte(r.Intn(256)))
			d.Write(i, s)
			may[i] = append(may[i], s)
		}
		var keep []int
		for i := range n {
			if r.Intn(2) == 0 {
				keep = append(keep, i)
			}
		}
		d.Cut(keep, r.Intn(14)-1, r.Intn(140)-5)
		d.Boot()
		odd := 0
		for i, l := range may {
			s, _ := d.Read(i)
			if slices.Contains(l, s) {
				continue
			}
			odd++
			if !isTorn(s, l) {
				t.Errorf("sector %d is %q", i, s)
			}
		}
		if odd > 1 {
			t.Errorf("%d sectors are torn", odd)
		}
	}
}

// isTorn tells whether a text is the beginning of one of some texts and the rest of another one.
func isTorn(s string, l []string) bool {
	for _, a := range l {
		for _, b := range l {
			for n := range len(s) + 1 {
				if s == a[:n]+b[n:] {
					return true
				}
			}
		}
	}
	return false
}
