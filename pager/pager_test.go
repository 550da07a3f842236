package pager_test

import (
	"math"
	"math/rand"
	"slices"
	"strconv"
	"strings"
	"testing"

	"pithead/api"
	"pithead/chain"
	"pithead/crc"
	"pithead/device"
	"pithead/page"
	"pithead/pager"
	"pithead/slot"
)

func want(t *testing.T, what string, got, want api.Errno) {
	t.Helper()
	if got != want {
		t.Errorf("%s = %v, want %v", what, got, want)
	}
}

func wantText(t *testing.T, what, s string, e api.Errno, want string) {
	t.Helper()
	if s != want || e != api.OK {
		t.Errorf("%s = %s, %v, want %s", what, brief(s), e, brief(want))
	}
}

// brief is how a text begins, and how long it is.
func brief(s string) string {
	return strconv.Quote(s[:min(len(s), 20)]) + " of " + strconv.Itoa(len(s))
}

// wantError: with an error there is no text.
func wantError(t *testing.T, what, s string, e, want api.Errno) {
	t.Helper()
	if s != "" || e != want {
		t.Errorf("%s = %s, %v, want %v", what, brief(s), e, want)
	}
}

func fresh(t *testing.T, sectors int) *device.Device {
	t.Helper()
	d, e := device.New(sectors)
	if e != api.OK {
		t.Fatalf("New(%d) = %v", sectors, e)
	}
	return d
}

func open(t *testing.T, d *device.Device) *pager.Pager {
	t.Helper()
	p, e := pager.Open(d)
	if e != api.OK || p == nil {
		t.Fatalf("Open = %v, %v", p, e)
	}
	return p
}

// text is so many bytes, unlike from place to place.
func text(n, seed int) string {
	b := make([]byte, n)
	for i := range b {
		b[i] = byte(i*7 + i/246*3 + seed)
	}
	return string(b)
}

// version is a version by hand, and where its pages are to stand.
type version struct {
	gen, top       int
	catalog, nodes string
	own, list      []int
}

func (v version) root() api.Root {
	return api.Root{
		Gen: v.gen, Pages: page.Count(len(v.catalog)) + page.Count(len(v.nodes)),
		Map: v.own[0], Catalog: len(v.catalog), Nodes: len(v.nodes), Top: v.top,
	}
}

// spot brings a page into an image, whatever is wrong with it.
func spot(x *api.Image, n int, p string) {
	for i, s := range page.Sectors(p) {
		x.Sectors[page.First(n)+i] = s
	}
}

// sheet is a page of a kind, at a place.
func sheet(t *testing.T, k byte, index int, s string) string {
	t.Helper()
	p, e := page.Put(k, index, s)
	if e != api.OK {
		t.Fatalf("page.Put = %v", e)
	}
	return p
}

// lay brings a version into an image, its record, too.
func (v version) lay(t *testing.T, x *api.Image) {
	t.Helper()
	first, _ := page.Split(page.Catalog, 0, v.catalog)
	second, _ := page.Split(page.Nodes, 0, v.nodes)
	for i, p := range append(first, second...) {
		spot(x, v.list[i], p)
	}
	pieces, e := chain.Lay(v.own, v.list)
	if e != api.OK {
		t.Fatalf("chain.Lay = %v", e)
	}
	for i, s := range pieces {
		spot(x, v.own[i], sheet(t, page.Map, i, s))
	}
	v.sign(t, x, v.root())
}

// sign writes a record into its slot.
func (v version) sign(t *testing.T, x *api.Image, r api.Root) {
	t.Helper()
	s, e := slot.Put(r)
	if e != api.OK {
		t.Fatalf("slot.Put = %v", e)
	}
	x.Sectors[slot.Place(r.Gen)] = s
}

// image is an empty device's.
func image(t *testing.T, sectors int) api.Image {
	t.Helper()
	return fresh(t, sectors).Seize()
}

func load(t *testing.T, x api.Image) *device.Device {
	t.Helper()
	d, e := device.Load(x)
	if e != api.OK {
		t.Fatalf("Load = %v", e)
	}
	return d
}

// up are so many numbers, from one on.
func up(from, n int) []int {
	var l []int
	for i := range n {
		l = append(l, from+i)
	}
	return l
}

// long is a version of two pieces: 3 pages of catalog, 128 of nodes, in no order, on a device of 402 sectors (200 pages).
func long() version {
	list := up(10, 131)
	slices.Reverse(list)
	return version{gen: 6, top: 700, catalog: text(500, 1), nodes: text(127*246+9, 2), own: []int{199, 3}, list: list}
}

// short is a version of one piece: a page of catalog, two of nodes, on a device of 24 sectors (11 pages).
func short() version {
	return version{gen: 3, top: 250, catalog: "cat", nodes: text(300, 5), own: []int{4}, list: []int{9, 0, 10}}
}

// laid is a device that has a version.
func laid(t *testing.T, sectors int, v version) *device.Device {
	t.Helper()
	x := image(t, sectors)
	v.lay(t, &x)
	return load(t, x)
}

// wantVersion: a pager has just this version.
func wantVersion(t *testing.T, what string, p *pager.Pager, v version) {
	t.Helper()
	if !p.Has() || p.Root() != v.root() {
		t.Errorf("%s: Root = %+v, want %+v", what, p.Root(), v.root())
	}
	s, e := p.Catalog()
	wantText(t, what+": Catalog", s, e, v.catalog)
	s, e = p.Nodes()
	wantText(t, what+": Nodes", s, e, v.nodes)
	want(t, what+": Check", p.Check(), api.OK)
}

func TestP13_1_OpenEmpty(t *testing.T) {
	for _, c := range []struct{ sectors, free int }{{16, 7}, {17, 7}, {18, 8}, {4095, 2046}, {4096, 2047}} {
		d := fresh(t, c.sectors)
		p := open(t, d)
		if p.Has() || p.Root() != (api.Root{}) || p.Free() != c.free || p.Fetched() != 0 {
			t.Errorf("of %d sectors: Has %v, Root %+v, %d free, %d fetched", c.sectors, p.Has(), p.Root(), p.Free(), p.Fetched())
		}
		if d.Steps() != 0 {
			t.Errorf("Open took %d steps", d.Steps())
		}
	}
}

func TestP13_1_OpenErrors(t *testing.T) {
	made := fresh(t, 16)
	copied := *made
	for name, d := range map[string]*device.Device{"nil": nil, "a plain one": {}, "a copy": &copied} {
		if p, e := pager.Open(d); p != nil || e != api.ErrNil {
			t.Errorf("Open of %s = %v, %v", name, p, e)
		}
	}
	for _, d := range []*device.Device{fresh(t, 16), laid(t, 24, short())} {
		d.Cut(nil, 0, 0)
		if p, e := pager.Open(d); p != nil || e != api.ErrDown {
			t.Errorf("Open of a device that is off = %v, %v", p, e)
		}
		d.Boot()
		open(t, d)
	}
}

func TestP13_1_Open(t *testing.T) {
	for _, c := range []struct {
		sectors, free, pieces int
		v                     version
	}{
		{24, 7, 1, short()},
		{402, 67, 2, long()},
		{16, 5, 1, version{gen: 1, catalog: "c", own: []int{6}, list: []int{5}}},
		{16, 0, 1, version{gen: api.MaxGen, catalog: text(246*6, 0), own: []int{0}, list: up(1, 6)}},
		{4096, 0, 17, version{gen: 2, top: 9, catalog: "c", nodes: text(246*2029, 1), own: up(0, 17), list: up(17, 2030)}},
	} {
		d := laid(t, c.sectors, c.v)
		before := d.Seize()
		p := open(t, d)
		if p.Free() != c.free || p.Fetched() != c.pieces || d.Reads() != 2+2*c.pieces {
			t.Errorf("%d free, %d fetched, %d reads", p.Free(), p.Fetched(), d.Reads())
		}
		wantVersion(t, "Open", p, c.v)
		if after := d.Seize(); d.Steps() != 0 || !slices.Equal(before.Sectors, after.Sectors) {
			t.Error("reading has written")
		}
	}
}

// TestP13_1_Later: of two versions the later one that stands counts, and no other.
func TestP13_1_Later(t *testing.T) {
	one := version{gen: 7, catalog: "one", nodes: "abc", top: 2, own: []int{0}, list: []int{1, 2}}
	two := version{gen: 8, catalog: "two", nodes: "", own: []int{3}, list: []int{4}}
	x := image(t, 16)
	one.lay(t, &x)
	two.lay(t, &x)
	p := open(t, load(t, x))
	wantVersion(t, "two", p, two)
	if p.Free() != 5 {
		t.Errorf("%d free: the earlier one's pages are", p.Free())
	}
	torn := x
	torn.Sectors = slices.Clone(x.Sectors)
	torn.Sectors[0] = torn.Sectors[0][:100] + torn.Sectors[1][100:]
	wantVersion(t, "the later record is torn", open(t, load(t, torn)), one)
	spoilt := x
	spoilt.Sectors = slices.Clone(x.Sectors)
	spoilt.Sectors[page.First(3)] = spoilt.Sectors[page.First(4)]
	if p, e := pager.Open(load(t, spoilt)); p != nil || e != api.ErrCorrupt {
		t.Errorf("the later one's list is spoilt: %v, %v", p, e)
	}
}

// TestP13_1_OpenCorrupt: each of what may be wrong with a version's list.
func TestP13_1_OpenCorrupt(t *testing.T) {
	v := long()
	pieces, _ := chain.Lay(v.own, v.list)
	piece := func(next int, l ...int) string {
		s, e := chain.Put(next, l...)
		if e != api.OK {
			t.Fatalf("chain.Put = %v", e)
		}
		return s
	}
	root := func(do func(r *api.Root)) func(x *api.Image) {
		return func(x *api.Image) {
			r := v.root()
			do(&r)
			v.sign(t, x, r)
		}
	}
	put := func(n int, k byte, index int, s string) func(x *api.Image) {
		return func(x *api.Image) { spot(x, n, sheet(t, k, index, s)) }
	}
	last := v.list[122:]
	for name, spoil := range map[string]func(x *api.Image){
		"the first piece is in no page":                    root(func(r *api.Root) { r.Map = 200 }),
		"the first piece is in no page, at all":            root(func(r *api.Root) { r.Map = 2046 }),
		"the first piece is in a page of the catalog":      root(func(r *api.Root) { r.Map = 140 }),
		"the first piece is in a page that is free":        root(func(r *api.Root) { r.Map = 0 }),
		"the first piece is the second one":                root(func(r *api.Root) { r.Map = 3 }),
		"a page more than the list has":                    root(func(r *api.Root) { r.Pages, r.Nodes = r.Pages+1, r.Nodes+246 }),
		"a page less than the list has":                    root(func(r *api.Root) { r.Pages, r.Nodes = r.Pages-1, r.Nodes-246 }),
		"the first piece is of another kind":               put(199, page.Nodes, 0, pieces[0]),
		"the first piece is of another index":              put(199, page.Map, 1, pieces[0]),
		"the second piece is of another kind":              put(3, page.Catalog, 1, pieces[1]),
		"the second piece is of another index":             put(3, page.Map, 0, pieces[1]),
		"the second piece is in no page":                   put(199, page.Map, 0, piece(200, v.list[:122]...)),
		"no second piece":                                  put(199, page.Map, 0, piece(-1, v.list[:122]...)),
		"the second piece is the first one":                put(199, page.Map, 0, piece(199, v.list[:122]...)),
		"a third piece":                                    put(3, page.Map, 1, piece(5, last...)),
		"a piece with bytes of none":                       put(3, page.Map, 1, pieces[1]+"\x00"),
		"a page twice":                                     put(3, page.Map, 1, piece(-1, append([]int{v.list[0]}, last[1:]...)...)),
		"a piece's page among the pages":                   put(3, page.Map, 1, piece(-1, append([]int{199}, last[1:]...)...)),
		"a number that is no page's":                       put(3, page.Map, 1, piece(-1, append([]int{200}, last[1:]...)...)),
		"the greatest number, which is no page's":          put(3, page.Map, 1, piece(-1, append([]int{2046}, last[1:]...)...)),
		"a number of the first piece that is no page's":    put(199, page.Map, 0, piece(3, append([]int{200}, v.list[1:122]...)...)),
		"a byte of the first piece's second sector turned": func(x *api.Image) { turn(x, page.First(199)+1, 9) },
		"a byte of the second piece turned":                func(x *api.Image) { turn(x, page.First(3), 100) },
		"a byte of a piece's noughts turned":               func(x *api.Image) { turn(x, page.First(3)+1, 100) },
		"a byte of a piece's sum turned":                   func(x *api.Image) { turn(x, page.First(3)+1, 127) },
	} {
		x := image(t, 402)
		v.lay(t, &x)
		spoil(&x)
		d := load(t, x)
		for range 2 { // each time anew
			if p, e := pager.Open(d); p != nil || e != api.ErrCorrupt {
				t.Errorf("%s: Open = %v, %v", name, p, e)
			}
		}
	}
}

// turn turns a bit of a byte of a sector.
func turn(x *api.Image, sector, at int) {
	b := []byte(x.Sectors[sector])
	b[at] ^= 4
	x.Sectors[sector] = string(b)
}

// TestP13_1_OpenAlone: Open reads the slots and the list, and no page besides.
func TestP13_1_OpenAlone(t *testing.T) {
	v := long()
	x := image(t, 402)
	v.lay(t, &x)
	for _, n := range v.list {
		turn(&x, page.First(n), 50)
	}
	p := open(t, load(t, x))
	if p.Root() != v.root() || p.Fetched() != 2 {
		t.Errorf("Root = %+v, %d fetched", p.Root(), p.Fetched())
	}
	want(t, "Check", p.Check(), api.ErrCorrupt)
}

func TestP13_1_NoPager(t *testing.T) {
	d := laid(t, 24, short())
	made := open(t, d)
	copied := *made
	reads := d.Reads()
	for name, p := range map[string]*pager.Pager{"nil": nil, "a plain one": {}, "a copy": &copied} {
		if p.Has() || p.Root() != (api.Root{}) || p.Free() != 0 || p.Fetched() != 0 {
			t.Errorf("%s: Has %v, Root %+v, %d free, %d fetched", name, p.Has(), p.Root(), p.Free(), p.Fetched())
		}
		for _, i := range []int{0, -1, 9} {
			s, e := p.Page(i)
			wantError(t, name+": Page", s, e, api.ErrNil)
			s, e = p.Bytes(i, i)
			wantError(t, name+": Bytes", s, e, api.ErrNil)
		}
		s, e := p.Catalog()
		wantError(t, name+": Catalog", s, e, api.ErrNil)
		s, e = p.Nodes()
		wantError(t, name+": Nodes", s, e, api.ErrNil)
		want(t, name+": Check", p.Check(), api.ErrNil)
		want(t, name+": Publish", p.Publish("c", "", 0), api.ErrNil)
		want(t, name+": Publish of what may not be", p.Publish("", "", 9), api.ErrNil)
	}
	if d.Reads() != reads || d.Steps() != 0 {
		t.Error("the calls of a copy have worked with the device")
	}
	wantVersion(t, "behind a copy's calls", made, short())
}

func TestP13_2_NoVersion(t *testing.T) {
	d := fresh(t, 16)
	p := open(t, d)
	for range 2 {
		for _, i := range []int{0, -1, 1} {
			s, e := p.Page(i)
			wantError(t, "Page", s, e, api.ErrNone)
			s, e = p.Bytes(i, 0)
			wantError(t, "Bytes", s, e, api.ErrNone)
		}
		s, e := p.Catalog()
		wantError(t, "Catalog", s, e, api.ErrNone)
		s, e = p.Nodes()
		wantError(t, "Nodes", s, e, api.ErrNone)
		want(t, "Check", p.Check(), api.ErrNone)
		want(t, "Publish of nothing", p.Publish("", "", 0), api.ErrArg)
	}
	d.Cut(nil, 0, 0)
	s, e := p.Nodes()
	wantError(t, "Nodes without power", s, e, api.ErrDown)
	want(t, "Check without power", p.Check(), api.ErrDown)
}

// wantDown: all that reads, or writes, is refused; what is known of the version is told as ever.
func wantDown(t *testing.T, what string, p *pager.Pager, root api.Root, free, fetched int) {
	t.Helper()
	for _, i := range []int{0, 2, -1, math.MaxInt} {
		s, e := p.Page(i)
		wantError(t, what+": Page", s, e, api.ErrDown)
		s, e = p.Bytes(i, 1)
		wantError(t, what+": Bytes", s, e, api.ErrDown)
	}
	s, e := p.Catalog()
	wantError(t, what+": Catalog", s, e, api.ErrDown)
	s, e = p.Nodes()
	wantError(t, what+": Nodes", s, e, api.ErrDown)
	want(t, what+": Check", p.Check(), api.ErrDown)
	want(t, what+": Publish", p.Publish("c", "", 0), api.ErrDown)
	want(t, what+": Publish of what finds no room", p.Publish(text(1<<20, 0), "", 0), api.ErrDown)
	want(t, what+": Publish of what may not be", p.Publish("", "", -1), api.ErrDown)
	if !p.Has() || p.Root() != root || p.Free() != free || p.Fetched() != fetched {
		t.Errorf("%s: Has %v, Root %+v, %d free, %d fetched", what, p.Has(), p.Root(), p.Free(), p.Fetched())
	}
}

// TestP13_2_Off: of a device that is off there is nothing, the cache's pages neither; with the power all is as it was.
func TestP13_2_Off(t *testing.T) {
	v := short()
	d := laid(t, 24, v)
	p := open(t, d)
	p.Nodes()
	fetched := p.Fetched()
	d.Cut(nil, 0, 0)
	wantDown(t, "off", p, v.root(), 7, fetched)
	d.Boot()
	wantVersion(t, "with power again", p, v)
	want(t, "Publish with power again", p.Publish("new", "", 0), api.OK)
	if s, e := p.Catalog(); s != "new" || e != api.OK || p.Root().Gen != 4 {
		t.Errorf("Catalog = %s, %v, Root %+v", brief(s), e, p.Root())
	}
}

// TestP13_2_Refused: behind a Publish that the device refused, nothing is told any more, with power neither.
func TestP13_2_Refused(t *testing.T) {
	v := short()
	for fuse := 1; fuse <= 9; fuse++ { // 2 pages, a sync, a record, a sync: 7 steps
		d := laid(t, 24, v)
		p := open(t, d)
		p.Page(0)
		free, fetched := p.Free(), p.Fetched()
		d.Fuse(fuse)
		e := p.Publish("new", "", 0)
		if (e == api.OK) != (fuse > 7) {
			t.Fatalf("fuse %d: Publish = %v", fuse, e)
		}
		if e == api.OK {
			continue
		}
		want(t, "Publish", e, api.ErrDown)
		wantDown(t, "behind it", p, v.root(), free, fetched)
		d.Boot()
		wantDown(t, "with power again", p, v.root(), free, fetched)
		steps, reads := d.Steps(), d.Reads()
		wantDown(t, "once more", p, v.root(), free, fetched)
		if d.Steps() != steps || d.Reads() != reads {
			t.Error("a pager that was refused has worked with the device")
		}
		wantVersion(t, "opened again", open(t, d), v)
	}
}

func TestP13_2_Page(t *testing.T) {
	v := long()
	p := open(t, laid(t, 402, v))
	for i := range 131 {
		s, e := p.Page(i)
		whole, at := v.catalog, i
		if i > 2 {
			whole, at = v.nodes, i-3
		}
		wantText(t, "Page", s, e, whole[at*246:min(at*246+246, len(whole))])
	}
	for _, i := range []int{-1, 131, 132, 1 << 20, math.MinInt, math.MaxInt} {
		s, e := p.Page(i)
		wantError(t, "Page beyond", s, e, api.ErrRange)
	}
}

// spoilt is a device with a version of which one page is another one.
func spoilt(t *testing.T, sectors int, v version, i int, p string) *device.Device {
	t.Helper()
	x := image(t, sectors)
	v.lay(t, &x)
	spot(&x, v.list[i], p)
	return load(t, x)
}

// TestP13_2_PageCorrupt: a page that is not of its kind and index.
func TestP13_2_PageCorrupt(t *testing.T) {
	v := short()
	one, two := v.nodes[:246], v.nodes[246:]
	for _, c := range []struct {
		name string
		i    int
		p    string
	}{
		{"catalog as nodes", 0, sheet(t, page.Nodes, 0, "cat")},
		{"catalog as a piece", 0, sheet(t, page.Map, 0, "cat")},
		{"catalog of another index", 0, sheet(t, page.Catalog, 1, "cat")},
		{"nodes as catalog", 1, sheet(t, page.Catalog, 0, one)},
		{"nodes of the version's index", 1, sheet(t, page.Nodes, 1, one)},
		{"nodes of the first index", 2, sheet(t, page.Nodes, 0, two)},
		{"nodes of a far index", 2, sheet(t, page.Nodes, 1<<24-1, two)},
		{"noughts", 2, strings.Repeat("\x00", 256)},
		{"a bit turned", 2, "N\x00\x00\x03" + sheet(t, page.Nodes, 1, two)[4:]},
		{"a byte behind its own", 0, crc.Close(sheet(t, page.Catalog, 0, "cat")[:251] + "\x01")},
	} {
		d := spoilt(t, 24, v, c.i, c.p)
		p := open(t, d)
		for n := range 3 {
			s, e := p.Page(c.i)
			wantError(t, c.name+": Page", s, e, api.ErrCorrupt)
			if p.Fetched() != 2+n {
				t.Errorf("%s: %d fetched: what is spoilt is not kept", c.name, p.Fetched())
			}
		}
		for i := range 3 {
			if _, e := p.Page(i); (e == api.OK) != (i != c.i) {
				t.Errorf("%s: Page(%d) = %v", c.name, i, e)
			}
		}
		want(t, c.name+": Check", p.Check(), api.ErrCorrupt)
		s, e := p.Catalog()
		if bad := c.i == 0; bad != (e == api.ErrCorrupt) || bad != (s == "") {
			t.Errorf("%s: Catalog = %s, %v", c.name, brief(s), e)
		}
		s, e = p.Nodes()
		if bad := c.i > 0; bad != (e == api.ErrCorrupt) || bad != (s == "") {
			t.Errorf("%s: Nodes = %s, %v", c.name, brief(s), e)
		}
	}
}

// TestP13_2_Length: a page of its kind and index, but of another number of bytes, is a page, and none of the catalog or the nodes.
func TestP13_2_Length(t *testing.T) {
	v := short()
	one, two := v.nodes[:246], v.nodes[246:]
	for _, c := range []struct {
		name  string
		i     int
		k     byte
		index int
		s     string
	}{
		{"a short catalog", 0, page.Catalog, 0, "ca"},
		{"a long catalog", 0, page.Catalog, 0, "cats"},
		{"an empty catalog", 0, page.Catalog, 0, ""},
		{"a short first page", 1, page.Nodes, 0, one[1:]},
		{"an empty first page", 1, page.Nodes, 0, ""},
		{"a short last page", 2, page.Nodes, 1, two[1:]},
		{"a long last page", 2, page.Nodes, 1, two + "x"},
		{"a full last page", 2, page.Nodes, 1, text(246, 0)},
	} {
		p := open(t, spoilt(t, 24, v, c.i, sheet(t, c.k, c.index, c.s)))
		for range 2 { // from the device, and from the cache
			s, e := p.Page(c.i)
			wantText(t, c.name+": Page", s, e, c.s)
			s, e = p.Catalog()
			if c.i == 0 {
				wantError(t, c.name+": Catalog", s, e, api.ErrCorrupt)
			} else {
				wantText(t, c.name+": Catalog", s, e, v.catalog)
			}
			s, e = p.Nodes()
			if c.i > 0 {
				wantError(t, c.name+": Nodes", s, e, api.ErrCorrupt)
			} else {
				wantText(t, c.name+": Nodes", s, e, v.nodes)
			}
			for at := range 300 {
				s, e := p.Bytes(at, 1)
				if c.i > 0 && at/246 == c.i-1 {
					wantError(t, c.name+": Bytes", s, e, api.ErrCorrupt)
				} else {
					wantText(t, c.name+": Bytes", s, e, v.nodes[at:at+1])
				}
			}
		}
		want(t, c.name+": Check", p.Check(), api.OK)
	}
}

func TestP13_2_Bytes(t *testing.T) {
	v := long()
	p := open(t, laid(t, 402, v))
	end := len(v.nodes)
	for _, c := range []struct{ at, n int }{
		{0, 0}, {0, 1}, {0, 245}, {0, 246}, {0, 247}, {245, 1}, {245, 2}, {246, 1}, {246, 246}, {247, 246}, {100, 1000},
		{245, 0}, {246, 0}, {300, 0}, {end, 0}, {end - 1, 1}, {end - 9, 9}, {end - 10, 10}, {end - 10, 9}, {0, end}, {1, end - 1},
	} {
		s, e := p.Bytes(c.at, c.n)
		wantText(t, "Bytes", s, e, v.nodes[c.at:c.at+c.n])
	}
	for _, c := range []struct{ at, n int }{
		{-1, 0}, {-1, 1}, {-1, 2}, {0, -1}, {5, -1}, {end, -1}, {end, 1}, {end + 1, 0}, {end + 1, -1}, {0, end + 1}, {1, end}, {end - 1, 2},
		{math.MaxInt, 0}, {math.MaxInt, 1}, {math.MaxInt, math.MaxInt}, {1, math.MaxInt}, {0, math.MaxInt}, {math.MinInt, math.MaxInt},
		{math.MinInt, math.MinInt}, {math.MaxInt, math.MinInt}, {0, math.MinInt}, {math.MinInt, 0}, {end, math.MinInt},
	} {
		s, e := p.Bytes(c.at, c.n)
		wantError(t, "Bytes beyond", s, e, api.ErrRange)
	}
	r := rand.New(rand.NewSource(132))
	for range 1000 {
		at := r.Intn(end)
		n := r.Intn(min(end-at, 600) + 1)
		s, e := p.Bytes(at, n)
		wantText(t, "Bytes", s, e, v.nodes[at:at+n])
	}
	none := open(t, laid(t, 16, version{gen: 1, catalog: "c", own: []int{0}, list: []int{1}}))
	s, e := none.Bytes(0, 0)
	wantText(t, "Bytes of no nodes", s, e, "")
	s, e = none.Bytes(0, 1)
	wantError(t, "a byte of no nodes", s, e, api.ErrRange)
	s, e = none.Nodes()
	wantText(t, "no nodes", s, e, "")
}

// TestP13_2_BytesAlone: no page is read but those that have the bytes.
func TestP13_2_BytesAlone(t *testing.T) {
	v := long()
	for _, c := range []struct{ at, n, pages int }{
		{0, 0, 0}, {100, 0, 0}, {246, 0, 0}, {len(v.nodes), 0, 0}, {0, 1, 1}, {0, 246, 1}, {0, 247, 2}, {245, 1, 1}, {245, 2, 2}, {246, 1, 1},
		{246, 246, 1}, {247, 246, 2}, {247, 245, 1}, {100, 492, 3}, {len(v.nodes) - 9, 9, 1}, {len(v.nodes) - 10, 10, 2}, {0, len(v.nodes), 128},
	} {
		x := image(t, 402)
		v.lay(t, &x)
		for i, n := range v.list {
			if first := c.at / 246; c.n == 0 || i < 3+first || i > 3+(c.at+c.n-1)/246 {
				turn(&x, page.First(n), 50)
			}
		}
		d := load(t, x)
		p := open(t, d)
		reads := d.Reads()
		s, e := p.Bytes(c.at, c.n)
		wantText(t, "Bytes", s, e, v.nodes[c.at:c.at+c.n])
		if got := p.Fetched() - 2; got != c.pages || d.Reads()-reads != 2*c.pages {
			t.Errorf("Bytes(%d, %d): %d pages, %d reads, want %d pages", c.at, c.n, got, d.Reads()-reads, c.pages)
		}
	}
}

// TestP13_2_Cache: the pages that were asked for last, 8 of them, are not read again.
func TestP13_2_Cache(t *testing.T) {
	v := long()
	d := laid(t, 402, v)
	p := open(t, d)
	fetched, reads := p.Fetched(), d.Reads()
	step := func(what string, pages int, do func()) {
		t.Helper()
		do()
		fetched, reads = fetched+pages, reads+2*pages
		if p.Fetched() != fetched || d.Reads() != reads {
			t.Errorf("%s: %d fetched, %d reads, want %d, %d", what, p.Fetched(), d.Reads(), fetched, reads)
		}
	}
	ask := func(l ...int) func() {
		return func() {
			t.Helper()
			for _, i := range l {
				if _, e := p.Page(i); e != api.OK {
					t.Errorf("Page(%d) = %v", i, e)
				}
			}
		}
	}
	step("8 pages", 8, ask(10, 11, 12, 13, 14, 15, 16, 17))
	step("the same", 0, ask(17, 16, 15, 14, 13, 12, 11, 10, 10))
	step("a ninth one", 1, ask(5))
	step("the 8 that were asked for last", 0, ask(5, 16, 15, 14, 13, 12, 11, 10))
	step("the one that went", 1, ask(17))
	step("the one that went for it", 1, ask(5))
	step("no page", 0, func() { p.Page(-1); p.Page(131); p.Bytes(-1, 9) })
	step("the catalog", 3, func() { p.Catalog() })
	step("the catalog again", 0, func() { p.Catalog() })
	step("its pages", 0, ask(0, 1, 2))
	step("bytes of two pages, and of one that was read", 2, func() { p.Bytes(0, 700) })
	step("the same bytes", 0, func() { p.Bytes(10, 690) })
	step("Check", 131, func() { p.Check() })
	step("what was there ahead of Check", 0, ask(0, 1, 2, 3, 4, 5))
	step("what Check has read", 1, ask(130))
	step("the nodes, but for the first three, which are there, and the last one, which goes ahead of its turn", 128-3, func() { p.Nodes() })
	step("the nodes again: each page went ahead of its turn", 128, func() { p.Nodes() })
}

// TestP13_2_CacheIsTold: a page of the cache is the one that was read; Check reads what is there now.
func TestP13_2_CacheIsTold(t *testing.T) {
	v := short()
	d := laid(t, 24, v)
	p := open(t, d)
	wantVersion(t, "ahead", p, v)
	for i, s := range page.Sectors(sheet(t, page.Nodes, 0, text(246, 9))) {
		d.Write(page.First(v.list[1])+i, s)
	}
	for i, s := range page.Sectors(sheet(t, page.Nodes, 0, "")) {
		d.Write(page.First(v.list[0])+i, s)
	}
	s, e := p.Nodes()
	wantText(t, "Nodes", s, e, v.nodes)
	want(t, "Check", p.Check(), api.ErrCorrupt)
	s, e = p.Catalog()
	wantText(t, "Catalog", s, e, v.catalog)
}

// TestP13_2_Check: the first page that is spoilt ends the reading.
func TestP13_2_Check(t *testing.T) {
	v := long()
	for i := range v.list {
		x := image(t, 402)
		v.lay(t, &x)
		turn(&x, page.First(v.list[i])+i%2, 60)
		p := open(t, load(t, x))
		want(t, "Check", p.Check(), api.ErrCorrupt)
		if p.Fetched() != 2+i+1 {
			t.Errorf("page %d is spoilt: %d fetched", i, p.Fetched())
		}
	}
}

func TestP13_3_Need(t *testing.T) {
	for _, c := range []struct{ catalog, nodes, need int }{
		{0, 0, 0}, {1, 0, 2}, {0, 1, 2}, {246, 0, 2}, {247, 0, 3}, {246, 247, 4}, {100, 100, 3}, {-5, 1, 2}, {1, -5, 2}, {-1, -1, 0},
		{246 * 122, 0, 123}, {246 * 121, 1, 123}, {246 * 121, 247, 125}, {246*122 + 1, 0, 125}, {1, 246 * 2029, 2047}, {1, 246*2029 + 1, 2048},
		{math.MinInt, math.MinInt, 0},
		{math.MaxInt, 0, math.MaxInt/246 + 1 + (math.MaxInt/246)/122 + 1},
	} {
		if got := pager.Need(c.catalog, c.nodes); got != c.need {
			t.Errorf("Need(%d, %d) = %d, want %d", c.catalog, c.nodes, got, c.need)
		}
	}
	pages := 2 * (math.MaxInt/246 + 1)
	if got := pager.Need(math.MaxInt, math.MaxInt); got != pages+(pages-1)/122+1 {
		t.Errorf("Need of the greatest = %d", got)
	}
}

// writes is what a version's Publish writes, in order: the catalog's pages, the nodes', the list's.
func (v version) writes(t *testing.T) []api.Put {
	t.Helper()
	x := image(t, 4096)
	v.lay(t, &x)
	var l []api.Put
	for _, n := range append(slices.Clone(v.list), v.own...) {
		for i := range 2 {
			l = append(l, api.Put{At: page.First(n) + i, Data: x.Sectors[page.First(n)+i]})
		}
	}
	return l
}

// TestP13_3_Steps: what is written, where, and in which order; and when it is made sure.
func TestP13_3_Steps(t *testing.T) {
	old := version{gen: 6, catalog: "old", nodes: text(700, 0), top: 5, own: []int{1}, list: []int{0, 199, 3, 6}}
	v := version{
		gen: 7, top: 246 * 3, catalog: text(300, 3), nodes: text(246*121, 4),
		own: []int{2, 4}, list: append([]int{5}, up(7, 122)...),
	}
	writes := v.writes(t)
	record, _ := slot.Put(v.root())
	at := func(fuse int) *device.Device {
		d := laid(t, 402, old)
		p := open(t, d)
		d.Fuse(fuse)
		want(t, "Publish", p.Publish(v.catalog, v.nodes, v.top), api.ErrDown)
		return d
	}
	steps := len(writes) + 3
	if got := at(len(writes) + 1).Seize(); !slices.Equal(got.Puts, writes) {
		t.Error("other writes than the version's pages, in order")
	}
	if got := at(len(writes)).Seize(); !slices.Equal(got.Puts, writes[:len(writes)-1]) {
		t.Error("other writes ahead of the last one")
	}
	if got := at(len(writes) + 2).Seize(); len(got.Puts) != 0 {
		t.Error("the pages are not sure ahead of the record")
	}
	if got := at(steps).Seize(); !slices.Equal(got.Puts, []api.Put{{At: 1, Data: record}}) {
		t.Errorf("behind the first sync there are %d Puts, of which the record is not the only one", len(got.Puts))
	}
	d := laid(t, 402, old)
	p := open(t, d)
	reads, fetched := d.Reads(), p.Fetched()
	want(t, "Publish", p.Publish(v.catalog, v.nodes, v.top), api.OK)
	if d.Steps() != steps || d.Reads() != reads || p.Fetched() != fetched || len(d.Seize().Puts) != 0 {
		t.Errorf("%d steps, %d reads, %d fetched, %d Puts", d.Steps(), d.Reads(), p.Fetched(), len(d.Seize().Puts))
	}
	whole := image(t, 402)
	old.lay(t, &whole)
	v.lay(t, &whole)
	if !slices.Equal(d.Seize().Sectors, whole.Sectors) {
		t.Error("other sectors than the two versions'")
	}
	if p.Free() != 200-125 {
		t.Errorf("%d free", p.Free())
	}
	wantVersion(t, "behind Publish", p, v)
	wantVersion(t, "opened again", open(t, d), v)
}

// TestP13_3_Turns: one version behind the other: the Gens, the slots, and which pages are taken.
func TestP13_3_Turns(t *testing.T) {
	d := fresh(t, 20) // 9 pages
	p := open(t, d)
	for _, c := range []struct {
		v    version
		free int
	}{
		{version{gen: 1, catalog: "a", own: []int{0}, list: []int{1}}, 7},
		{version{gen: 2, catalog: "b", nodes: "xyz", top: 2, own: []int{2}, list: []int{3, 4}}, 6},
		{version{gen: 3, catalog: "c", nodes: text(500, 0), top: 499, own: []int{0}, list: []int{1, 5, 6, 7}}, 4},
		{version{gen: 4, catalog: "d", nodes: "z", own: []int{2}, list: []int{3, 4}}, 6},
		{version{gen: 5, catalog: text(247, 0), nodes: text(494, 0), top: 1, own: []int{0}, list: []int{1, 5, 6, 7, 8}}, 3},
		{version{gen: 6, catalog: "e", own: []int{2}, list: []int{3}}, 7},
	} {
		want(t, "Publish", p.Publish(c.v.catalog, c.v.nodes, c.v.top), api.OK)
		wantVersion(t, c.v.catalog[:1], p, c.v)
		if p.Free() != c.free {
			t.Errorf("Gen %d: %d free, want %d", c.v.gen, p.Free(), c.free)
		}
		q := open(t, d)
		wantVersion(t, c.v.catalog[:1]+" opened again", q, c.v)
		if q.Free() != c.free {
			t.Errorf("Gen %d: %d free, opened again, want %d", c.v.gen, q.Free(), c.free)
		}
		if r, ok := slot.Stands(c.v.gen%2, d.Seize().Sectors[c.v.gen%2]); !ok || r != c.v.root() {
			t.Errorf("Gen %d: the slot has %+v, %v", c.v.gen, r, ok)
		}
	}
}

func TestP13_3_Errors(t *testing.T) {
	v := short() // 11 pages, 7 free
	for _, c := range []struct {
		name           string
		catalog, nodes string
		top            int
		e              api.Errno
	}{
		{"a page too many", text(246*6+1, 0), "", 0, api.ErrFull},
		{"a page too many, with the nodes", text(246*3, 0), text(246*3+1, 0), 0, api.ErrFull},
		{"very many", text(1<<20+1, 0), text(1<<20+1, 0), 0, api.ErrFull},
		{"a page too many, and a top beyond", text(246*7, 0), "", 1, api.ErrFull},
		{"a page too many, of no catalog", "", text(246*7, 0), 0, api.ErrFull},
		{"nothing", "", "", 0, api.ErrArg},
		{"no catalog", "", "x", 0, api.ErrArg},
		{"a top at the end", "c", "xyz", 3, api.ErrArg},
		{"a top beyond the end", "c", "xyz", math.MaxInt, api.ErrArg},
		{"a top below 0", "c", "xyz", -1, api.ErrArg},
		{"a top of no nodes", "c", "", 1, api.ErrArg},
		{"a top far below 0", "c", "", math.MinInt, api.ErrArg},
		{"nothing, and a top", "", "", 1, api.ErrArg},
	} {
		d := laid(t, 24, v)
		p := open(t, d)
		p.Nodes()
		fetched, before := p.Fetched(), d.Seize()
		want(t, c.name+": Publish", p.Publish(c.catalog, c.nodes, c.top), c.e)
		if d.Steps() != 0 || p.Free() != 7 || !slices.Equal(d.Seize().Sectors, before.Sectors) {
			t.Errorf("%s: %d steps, %d free", c.name, d.Steps(), p.Free())
		}
		p.Nodes()
		if p.Fetched() != fetched {
			t.Errorf("%s: the cache was changed", c.name)
		}
		wantVersion(t, c.name, p, v)
		want(t, c.name+": Publish of what may be", p.Publish("c", "", 0), api.OK)
	}
	p := open(t, laid(t, 24, v))
	want(t, "just as many as are free", p.Publish(text(246*3, 0), text(246*3, 0), 0), api.OK)
	if p.Free() != 4 {
		t.Errorf("%d free", p.Free())
	}
}

// TestP13_3_Limit: behind the last Gen there is none, whatever is published.
func TestP13_3_Limit(t *testing.T) {
	v := short()
	v.gen = api.MaxGen
	d := laid(t, 24, v)
	p := open(t, d)
	for _, c := range []struct {
		catalog string
		top     int
	}{{"c", 0}, {text(246*9, 0), 0}, {"", 0}, {"c", 9}} {
		want(t, "Publish", p.Publish(c.catalog, "", c.top), api.ErrLimit)
	}
	if d.Steps() != 0 || p.Free() != 7 {
		t.Errorf("%d steps, %d free", d.Steps(), p.Free())
	}
	wantVersion(t, "behind it", p, v)
	v.gen--
	q := open(t, laid(t, 24, v))
	want(t, "Publish of the last Gen", q.Publish("c", "", 0), api.OK)
	want(t, "Publish behind it", q.Publish("c", "", 0), api.ErrLimit)
	if q.Root().Gen != api.MaxGen {
		t.Errorf("Root = %+v", q.Root())
	}
}

// TestP13_3_CacheIsEmpty: behind Publish no page of the other version is told.
func TestP13_3_CacheIsEmpty(t *testing.T) {
	p := open(t, fresh(t, 64))
	want(t, "Publish", p.Publish("one", text(300, 1), 0), api.OK)
	p.Catalog()
	p.Nodes()
	fetched := p.Fetched()
	want(t, "Publish", p.Publish("two", text(300, 2), 0), api.OK)
	s, e := p.Catalog()
	wantText(t, "Catalog", s, e, "two")
	s, e = p.Nodes()
	wantText(t, "Nodes", s, e, text(300, 2))
	if p.Fetched() != fetched+3 {
		t.Errorf("%d fetched, want %d", p.Fetched(), fetched+3)
	}
}

// TestP13_3_Largest: a version that takes all pages of the greatest device.
func TestP13_3_Largest(t *testing.T) {
	d := fresh(t, api.MaxSectors)
	p := open(t, d)
	nodes := text(246*2029, 8)
	want(t, "Publish of a page more", p.Publish("c", nodes+"x", 0), api.ErrFull)
	want(t, "Publish", p.Publish("c", nodes, len(nodes)-1), api.OK)
	if p.Free() != 0 || p.Root() != (api.Root{Gen: 1, Pages: 2030, Catalog: 1, Nodes: len(nodes), Top: len(nodes) - 1}) {
		t.Errorf("%d free, Root %+v", p.Free(), p.Root())
	}
	q := open(t, d)
	s, e := q.Nodes()
	wantText(t, "Nodes", s, e, nodes)
	want(t, "Publish beside it", q.Publish("c", "", 0), api.ErrFull)
}

// TestP13_3_Apart: two devices' pagers know nothing of one another.
func TestP13_3_Apart(t *testing.T) {
	a, b := open(t, fresh(t, 16)), open(t, fresh(t, 16))
	want(t, "Publish", a.Publish("a", "", 0), api.OK)
	if b.Has() || b.Free() != 7 {
		t.Error("a pager knows of another one's version")
	}
}

// told is what a device is found to have: its catalog and its nodes, and the top.
type told struct {
	catalog, nodes string
	top            int
}

// found opens a device, which must be as it must be.
func found(t *testing.T, d *device.Device) (told, *pager.Pager) {
	t.Helper()
	p := open(t, d)
	if !p.Has() {
		return told{}, p
	}
	c, e := p.Catalog()
	n, f := p.Nodes()
	if e != api.OK || f != api.OK || p.Check() != api.OK || p.Free() != page.Of(d.Size())-pager.Need(len(c), len(n)) {
		t.Fatalf("what is found is spoilt: %v, %v, %v, %d free", e, f, p.Check(), p.Free())
	}
	return told{c, n, p.Root().Top}, p
}

// some is a version's bytes, of any length that finds room.
func some(r *rand.Rand) told {
	x := told{catalog: text(1+r.Intn(400), r.Intn(256)), nodes: text(r.Intn(3)*r.Intn(400), r.Intn(256))}
	if x.nodes != "" {
		x.top = r.Intn(len(x.nodes))
	}
	return x
}

// cut lets the power go, with any of the writes kept, and one torn; and brings it again.
func cut(r *rand.Rand, d *device.Device) {
	var keep []int
	share := r.Intn(11)
	for i := range len(d.Seize().Puts) {
		if r.Intn(10) < share {
			keep = append(keep, i)
		}
	}
	d.Cut(keep, r.Intn(len(d.Seize().Puts)+2)-1, r.Intn(140)-6)
	d.Boot()
}

// TestP13_4: behind any cut of a Publish there is the version that was, or the whole new one; the new one, if that was answered.
func TestP13_4(t *testing.T) {
	r := rand.New(rand.NewSource(134))
	olds, news := 0, 0
	for range 150 {
		d := fresh(t, 40)
		was, p := found(t, d)
		for range 12 {
			next := some(r)
			d.Fuse(r.Intn(22))
			e := p.Publish(next.catalog, next.nodes, next.top)
			if e == api.OK && r.Intn(2) == 0 {
				d.Fuse(0)
				was = next
				continue
			}
			cut(r, d)
			is, again := found(t, d)
			if is != next && (is != was || e == api.OK) {
				t.Fatalf("behind a Publish that answered %v: %s, want %s, or %s", e, brief(is.catalog), brief(next.catalog), brief(was.catalog))
			}
			if e != api.OK && is == next {
				news++
			} else if e != api.OK {
				olds++
			}
			was, p = is, again
		}
	}
	if olds < 100 || news < 5 {
		t.Errorf("%d cuts left what was, %d the new one: too few to tell of", olds, news)
	}
}

// TestP13_4_Each: at each step, with each beginning of the record, and of each page.
func TestP13_4_Each(t *testing.T) {
	was := told{"old", text(300, 1), 200}
	next := told{"new", text(500, 2), 499}
	for fuse := 1; fuse <= 13; fuse++ { // 5 pages, a sync, a record, a sync
		for torn := range 11 {
			for bytes := range 129 {
				if torn > 0 && bytes%32 != 5 {
					continue
				}
				d := fresh(t, 40)
				p := open(t, d)
				p.Publish(was.catalog, was.nodes, was.top)
				p.Publish(was.catalog, was.nodes, was.top)
				d.Fuse(fuse)
				want(t, "Publish", p.Publish(next.catalog, next.nodes, next.top), api.ErrDown)
				d.Cut(nil, torn, bytes)
				d.Boot()
				is, _ := found(t, d)
				if whole := fuse == 13 && torn == 0 && bytes == 128; is != was && is != next || whole != (is == next) {
					t.Fatalf("fuse %d, %d bytes of %d: %s", fuse, bytes, torn, brief(is.catalog))
				}
			}
		}
	}
}

// TestP13_4_Whatever: of a device whose bytes are any, calls end, and what is told is what was written, or an error.
func TestP13_4_Whatever(t *testing.T) {
	r := rand.New(rand.NewSource(135))
	v := short()
	x := image(t, 24)
	v.lay(t, &x)
	for range 3000 {
		y := api.Image{Sectors: slices.Clone(x.Sectors)}
		for range 1 + r.Intn(3) {
			i := r.Intn(24)
			if r.Intn(3) == 0 {
				y.Sectors[i] = y.Sectors[r.Intn(24)]
			} else {
				turn(&y, i, r.Intn(128))
			}
		}
		p, e := pager.Open(load(t, y))
		if e != api.OK {
			want(t, "Open", e, api.ErrCorrupt)
			continue
		}
		if !p.Has() {
			continue
		}
		if s, e := p.Catalog(); e == api.OK && s != v.catalog || e != api.OK && e != api.ErrCorrupt {
			t.Fatalf("Catalog = %s, %v", brief(s), e)
		}
		if s, e := p.Nodes(); e == api.OK && s != v.nodes || e != api.OK && e != api.ErrCorrupt {
			t.Fatalf("Nodes = %s, %v", brief(s), e)
		}
	}
}
