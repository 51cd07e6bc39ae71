package extfs

import (
	"encoding/binary"
	"fmt"
	"hash/crc32"
	"maps"
	"math"
	"slices"
	"strings"
	"testing"

	"lighter/api"
	"lighter/journal"
	"lighter/sectors"
)

// far are numbers that no file has as a place or a count of bytes.
var far = []int{math.MinInt, math.MinInt + 1, -1 << 32, -512, -2, -1, 1 << 20, 1 << 32, math.MaxInt - 512, math.MaxInt - 1, math.MaxInt}

// numbers are mixed ones.
type numbers struct{ last uint32 }

func (r *numbers) below(n int) int {
	r.last = r.last*1664525 + 1013904223
	return int(r.last>>8) % n
}

func (r *numbers) keep() []bool {
	l := make([]bool, r.below(200))
	for i := range l {
		l[i] = r.below(2) == 1
	}
	return l
}

// text is so many mixed bytes.
func text(size, seed int) string {
	r := numbers{uint32(seed)*2654435761 + 12345}
	b := make([]byte, size)
	for i := range b {
		b[i] = byte(1 + r.below(255))
	}
	return string(b)
}

func create(name string) api.FileOp    { return api.FileOp{Kind: api.FiCreate, Name: name} }
func add(name, data string) api.FileOp { return api.FileOp{Kind: api.FiAppend, Name: name, Data: data} }
func put(name, data string) api.FileOp {
	return api.FileOp{Kind: api.FiReplace, Name: name, Data: data}
}
func rename(name, to string) api.FileOp { return api.FileOp{Kind: api.FiRename, Name: name, To: to} }
func remove(name string) api.FileOp     { return api.FileOp{Kind: api.FiDelete, Name: name} }
func ops(l ...api.FileOp) []api.FileOp  { return l }
func (m *words) over() bool             { return !m.disk.Up() || m.disk.Starts() > m.starts }
func (m *words) blocks() int            { return m.disk.Size() - 130 }
func (m *words) file(name string) int   { return fileIn(&m.places, name) }
func isNoName(s string) bool            { return len(s) == 0 || len(s) > 96 }
func fileIn(l *[128]*known, s string) int {
	return slices.IndexFunc(l[:], func(k *known) bool { return k != nil && k.name == s })
}

// known is a file, by the words of the document.
type known struct {
	name, data string
	blocks     []int
	fresh      bool // it got its blocks in the Do that is being done
}

// words are files by the words of the document, on a disk whose journal is that of the layer below.
type words struct {
	disk   *sectors.Disk
	starts int
	log    *journal.Journal
	places [128]*known
}

// bitsBytes are those of the sector of the bits.
func bitsBytes(used []int) string {
	b := make([]byte, 508, 512)
	for _, n := range used {
		b[n/8] |= 1 << (n % 8)
	}
	return string(binary.LittleEndian.AppendUint32(b, crc32.ChecksumIEEE(b)))
}

// extents are those of blocks that rise.
func extents(blocks []int) []api.Extent {
	var l []api.Extent
	for i, b := range blocks {
		if i > 0 && blocks[i-1] == b-1 {
			l[len(l)-1].Count++
		} else {
			l = append(l, api.Extent{First: b, Count: 1})
		}
	}
	return l
}

// placeBytes are those of a file's place.
func placeBytes(k *known) string {
	b := make([]byte, 256)
	if k == nil {
		return string(b)
	}
	b[0] = byte(len(k.name))
	copy(b[1:], k.name)
	binary.LittleEndian.PutUint32(b[97:], uint32(len(k.data)))
	l := extents(k.blocks)
	b[101] = byte(len(l))
	for i, x := range l {
		binary.LittleEndian.PutUint16(b[102+4*i:], uint16(x.First))
		binary.LittleEndian.PutUint16(b[104+4*i:], uint16(x.Count))
	}
	binary.LittleEndian.PutUint32(b[134:], crc32.ChecksumIEEE(b[:134]))
	return string(b)
}

// meta is one of the journal's first 65 sectors.
func meta(places *[128]*known, n int) api.Write {
	if n > 0 {
		return api.Write{Sector: n, Data: placeBytes(places[2*n-2]) + placeBytes(places[2*n-1])}
	}
	return api.Write{Data: bitsBytes(usedIn(places))}
}

// usedIn are the blocks that files have.
func usedIn(places *[128]*known) []int {
	var l []int
	for _, k := range places {
		if k != nil {
			l = append(l, k.blocks...)
		}
	}
	slices.Sort(l)
	return l
}

func formatByWords(d *sectors.Disk) api.Errno {
	if e := journal.Format(d); e != api.OK {
		return e
	}
	j, e := journal.Open(d)
	if e != api.OK {
		return e
	}
	if j.Size() < 66 {
		return api.ErrArg
	}
	for _, part := range [][2]int{{0, 21}, {21, 42}, {42, 63}, {63, 65}} {
		var l []api.Write
		for n := part[0]; n < part[1]; n++ {
			l = append(l, meta(&[128]*known{}, n))
		}
		if e := j.Commit(l); e != api.OK {
			return e
		}
	}
	return api.OK
}

// openByWords takes the files from those that there should be, which the sectors must have.
func openByWords(t *testing.T, d *sectors.Disk, places [128]*known) (*words, api.Errno) {
	t.Helper()
	j, e := journal.Open(d)
	if e != api.OK {
		return nil, e
	}
	m := &words{disk: d, starts: d.Starts(), log: j, places: places}
	for n := range 65 {
		if s, _ := j.Read(n); s != meta(&places, n).Data {
			t.Fatalf("the twin's sector %d is another one", n)
		}
	}
	return m, api.OK
}

// take is the blocks of P8.2.
func take(had map[int]bool, size, n int) []int {
	var free []int
	for b := range size {
		if !had[b] {
			free = append(free, b)
		}
	}
	if n > len(free) {
		return nil
	}
	got := free[:n]
	for i := range len(free) - n + 1 {
		if free[i+n-1] == free[i]+n-1 {
			got = free[i : i+n]
			break
		}
	}
	if len(extents(got)) > 8 {
		return nil
	}
	return slices.Clone(got)
}

// attempt is a Do in thought.
type attempt struct {
	places [128]*known
	had    map[int]bool
	size   int
}

func (a *attempt) give(place int, name, data string) api.Errno {
	k := &known{name: name, data: data, fresh: true}
	if n := (len(data) + 511) / 512; n > 0 {
		if k.blocks = take(a.had, a.size, n); k.blocks == nil {
			return api.ErrSpace
		}
	}
	for _, b := range k.blocks {
		a.had[b] = true
	}
	a.places[place] = k
	return api.OK
}

func (a *attempt) lowest() int {
	return slices.IndexFunc(a.places[:], func(k *known) bool { return k == nil })
}

func (a *attempt) do(op api.FileOp) api.Errno {
	if op.Kind < 1 || op.Kind > 5 || isNoName(op.Name) {
		return api.ErrArg
	}
	at := fileIn(&a.places, op.Name)
	there := at >= 0
	switch {
	case op.Kind == api.FiCreate && there:
		return api.ErrHave
	case op.Kind == api.FiRename && isNoName(op.To):
		return api.ErrArg
	case op.Kind != api.FiCreate && op.Kind != api.FiReplace && !there:
		return api.ErrNone
	case op.Kind == api.FiAppend && len(a.places[at].data)+len(op.Data) > 65536:
		return api.ErrLong
	case op.Kind == api.FiReplace && len(op.Data) > 65536:
		return api.ErrLong
	}
	if !there {
		if at = a.lowest(); at < 0 {
			return api.ErrMany
		}
	}
	switch op.Kind {
	case api.FiCreate:
		a.places[at] = &known{name: op.Name}
	case api.FiReplace:
		return a.give(at, op.Name, op.Data)
	case api.FiAppend:
		if op.Data != "" {
			return a.give(at, op.Name, a.places[at].data+op.Data)
		}
	case api.FiRename:
		if other := fileIn(&a.places, op.To); other >= 0 && other != at {
			a.places[other] = nil
		}
		k := *a.places[at]
		k.name = op.To
		a.places[at] = &k
	case api.FiDelete:
		a.places[at] = nil
	}
	return api.OK
}

func (m *words) do(l []api.FileOp) api.Errno {
	switch {
	case m.over():
		return api.ErrDown
	case len(l) > 10:
		return api.ErrMany
	}
	a := &attempt{places: m.places, had: map[int]bool{}, size: m.blocks()}
	for _, b := range usedIn(&m.places) {
		a.had[b] = true
	}
	for _, op := range l {
		if e := a.do(op); e != api.OK {
			return e
		}
	}
	var writes []api.Write
	for n := range 65 {
		if now := meta(&a.places, n); now != meta(&m.places, n) {
			writes = append(writes, now)
		}
	}
	if len(writes) == 0 {
		return api.OK
	}
	if writes[0].Sector > 0 {
		writes = slices.Insert(writes, 0, meta(&a.places, 0))
	}
	return m.become(a, writes)
}

func (m *words) become(a *attempt, writes []api.Write) api.Errno {
	for i, k := range a.places {
		if k == nil || !k.fresh {
			continue
		}
		full := k.data + strings.Repeat("\x00", 512)
		for n, b := range k.blocks {
			if e := m.log.Direct([]api.Write{{Sector: 65 + b, Data: full[512*n : 512*n+512]}}); e != api.OK {
				return e
			}
		}
		old := *k
		old.fresh = false
		a.places[i] = &old
	}
	if e := m.log.Commit(writes); e != api.OK {
		return e
	}
	m.places = a.places
	return api.OK
}

// pair is files on a disk, and others on a twin of it, for which all is done by the words.
type pair struct {
	t          *testing.T
	disk, twin *sectors.Disk
	f          *FS
	m          *words
	names      map[string]bool // that were in use
}

// both is a pair that is formatted and opened, on disks of so many sectors.
func both(t *testing.T, size int) *pair {
	t.Helper()
	p := &pair{t: t, disk: blank(t, size), twin: blank(t, size), names: map[string]bool{"": true, "no": true, strings.Repeat("n", 97): true}}
	tells(t, "Format", Format(p.disk), formatByWords(p.twin))
	p.open()
	return p
}

// open opens the files once more.
func (p *pair) open() {
	p.t.Helper()
	f, e := Open(p.disk)
	var places [128]*known
	if p.m != nil {
		places = p.m.places
	}
	m, want := openByWords(p.t, p.twin, places)
	if f == nil || m == nil {
		p.t.Fatalf("Open: %v, %d; want %v, %d", f, int(e), m, int(want))
	}
	p.f, p.m = f, m
	tells(p.t, "Open", e, want)
	p.same("Open")
}

// do does it with both; the error.
func (p *pair) do(l ...api.FileOp) api.Errno {
	p.t.Helper()
	what := "Do"
	for _, op := range l {
		p.names[op.Name], p.names[op.To] = true, true
		what += fmt.Sprintf(" %d %.9q %.9q %d", op.Kind, op.Name, op.To, len(op.Data))
	}
	e, want := p.f.Do(l), p.m.do(l)
	tells(p.t, what, e, want)
	p.same(what)
	return e
}

// wants does it with both, and fails if another error is told.
func (p *pair) wants(want api.Errno, l ...api.FileOp) {
	p.t.Helper()
	tells(p.t, "Do", p.do(l...), want)
}

func (p *pair) fail(n int, keep []bool) {
	p.disk.Fail(n, keep)
	p.twin.Fail(n, keep)
}

func (p *pair) crash(keep []bool) {
	p.disk.Crash(keep)
	p.twin.Crash(keep)
}

func (p *pair) start() {
	p.disk.Start()
	p.twin.Start()
}

// same fails, if the disks, or what is told of the files, are unlike.
func (p *pair) same(what string) {
	p.t.Helper()
	if p.disk.Up() != p.twin.Up() || p.disk.Loose() != p.twin.Loose() {
		p.t.Fatalf("%s: up %t, loose %d; want %t, %d", what, p.disk.Up(), p.disk.Loose(), p.twin.Up(), p.twin.Loose())
	}
	for n := range p.disk.Size() {
		s, _ := p.disk.Read(n)
		if want, _ := p.twin.Read(n); s != want {
			p.t.Fatalf("%s: the disk's sector %d has %.40q; want %.40q", what, n, s, want)
		}
	}
	p.counts(what)
	for name := range p.names {
		p.file(name)
	}
}

// counts fails, if the names or the blocks are other ones.
func (p *pair) counts(what string) {
	p.t.Helper()
	var names []string
	for _, k := range p.m.places {
		if k != nil {
			names = append(names, k.name)
		}
	}
	slices.Sort(names)
	used := len(usedIn(&p.m.places))
	if l := p.f.List(); !slices.Equal(l, names) {
		p.t.Fatalf("%s: List: %.300q; want %.300q", what, l, names)
	}
	got := []int{p.f.Used(), p.f.Free(), p.f.Meta(), p.f.Total()}
	if want := []int{used, p.m.blocks() - used, 130, p.disk.Size()}; !slices.Equal(got, want) {
		p.t.Fatalf("%s: used, free, meta, total: %v; want %v", what, got, want)
	}
}

// file fails, if of a file something else is told.
func (p *pair) file(name string) {
	p.t.Helper()
	var k known
	want := api.ErrNone
	if at := p.m.file(name); at >= 0 {
		k, want = *p.m.places[at], api.OK
	}
	n, e := p.f.Size(name)
	if n != len(k.data) || e != want || p.f.Blocks(name) != len(k.blocks) {
		p.t.Fatalf("%.9q: Size %d, %d, Blocks %d; want %d, %d, %d", name, n, int(e), p.f.Blocks(name), len(k.data), int(want), len(k.blocks))
	}
	read := k.data
	if p.m.over() {
		read, want = "", api.ErrDown
	}
	if s, e := p.f.Read(name, 0, math.MaxInt); s != read || e != want {
		p.t.Fatalf("%.9q: Read: %.9q (%d bytes), %d; want %.9q (%d), %d", name, s, len(s), int(e), read, len(read), int(want))
	}
}

// tells fails, if an error is another one.
func tells(t *testing.T, what string, e, want api.Errno) {
	t.Helper()
	if e != want {
		t.Errorf("%s: %d; want %d", what, int(e), int(want))
	}
}

// blank is a disk of so many sectors.
func blank(t *testing.T, size int) *sectors.Disk {
	t.Helper()
	d, e := sectors.New(size)
	if e != api.OK {
		t.Fatalf("a disk of %d: %d", size, int(e))
	}
	return d
}

// formatted is a disk of so many sectors without files.
func formatted(t *testing.T, size int) *sectors.Disk {
	t.Helper()
	d := blank(t, size)
	tells(t, "Format", Format(d), api.OK)
	return d
}

// opened are the files of a disk.
func opened(t *testing.T, d *sectors.Disk) *FS {
	t.Helper()
	f, e := Open(d)
	if f == nil || e != api.OK {
		t.Fatalf("Open: %v, %d", f, int(e))
	}
	return f
}

// does fails, if a Do is not done.
func does(t *testing.T, f *FS, l ...api.FileOp) {
	t.Helper()
	if e := f.Do(l); e != api.OK {
		t.Fatalf("Do: %d", int(e))
	}
}

// contents are all files' bytes; what is told of them must agree with them (P10.5).
func contents(t *testing.T, f *FS) map[string]string {
	t.Helper()
	all := map[string]string{}
	used := 0
	for _, name := range f.List() {
		s, e := f.Read(name, 0, math.MaxInt)
		n, g := f.Size(name)
		if e != api.OK || g != api.OK || n != len(s) || f.Blocks(name) != (n+511)/512 {
			t.Fatalf("%q: %d, %d, %d bytes, size %d, %d blocks", name, int(e), int(g), len(s), n, f.Blocks(name))
		}
		used += f.Blocks(name)
		all[name] = s
	}
	if used != f.Used() || f.Used()+f.Free()+f.Meta() != f.Total() {
		t.Fatalf("used %d (%d), free %d, meta %d, total %d", f.Used(), used, f.Free(), f.Meta(), f.Total())
	}
	return all
}

// The examples of the document.
func TestExamples(t *testing.T) {
	f := opened(t, formatted(t, 140))
	if f.Total() != 140 || f.Meta() != 130 || f.Free() != 10 {
		t.Errorf("total %d, meta %d, free %d", f.Total(), f.Meta(), f.Free())
	}
	does(t, f, put("a", text(600, 1)))
	if f.Used() != 2 {
		t.Errorf("used %d", f.Used())
	}
	tells(t, "append to none", f.Do(ops(add("b", "x"))), api.ErrNone)
	does(t, f, create("b"), add("b", "x"), rename("a", "b"))
	if n, e := f.Size("b"); !slices.Equal(f.List(), []string{"b"}) || n != 600 || e != api.OK || f.Used() != 2 {
		t.Errorf("%q, %d, %d, used %d", f.List(), n, int(e), f.Used())
	}
}

// MaxOps is ten.
func TestMaxOps(t *testing.T) {
	if MaxOps != 10 {
		t.Errorf("%d", MaxOps)
	}
}

// Files that are none: nil, and those that Open did not make (R3).
func TestNone(t *testing.T) {
	broken, _ := Open(blank(t, 200))
	for i, f := range []*FS{nil, {}, new(FS), broken} {
		tells(t, "Do", f.Do(nil), api.ErrNil)
		tells(t, "Do of too many", f.Do(make([]api.FileOp, 11)), api.ErrNil)
		tells(t, "Do of one", f.Do(ops(create("a"))), api.ErrNil)
		if s, e := f.Read("a", -1, -1); s != "" || e != api.ErrNil {
			t.Errorf("%d: Read: %q, %d", i, s, int(e))
		}
		if n, e := f.Size("a"); n != 0 || e != api.ErrNil {
			t.Errorf("%d: Size: %d, %d", i, n, int(e))
		}
		if f.Blocks("a") != 0 || len(f.List()) != 0 || f.Used() != 0 || f.Free() != 0 || f.Meta() != 0 || f.Total() != 0 {
			t.Errorf("%d: something is told", i)
		}
	}
}

// P10.1: the errors of the journal, and a journal that is too small: it is formatted all the same.
func TestFormatErrors(t *testing.T) {
	tells(t, "nil", Format(nil), api.ErrNil)
	tells(t, "none", Format(&sectors.Disk{}), api.ErrNil)
	down := blank(t, 200)
	down.Crash(nil)
	tells(t, "down", Format(down), api.ErrDown)
	small := blank(t, 8)
	small.Crash(nil)
	tells(t, "small and down", Format(small), api.ErrDown)
	for _, size := range []int{8, 65, 72, 73, 74, 129, 130} {
		d, twin := blank(t, size), blank(t, size)
		tells(t, fmt.Sprint(size), Format(d), api.ErrArg)
		formatByWords(twin)
		for n := range size {
			s, _ := d.Read(n)
			if want, _ := twin.Read(n); s != want || d.Loose() != twin.Loose() {
				t.Errorf("%d sectors, sector %d: %.20q", size, n, s)
			}
		}
	}
	// Of two errors that of the journal's steps is told.
	failing := blank(t, 130)
	failing.Fail(68, nil)
	tells(t, "small, and it fails", Format(failing), api.ErrDown)
}

// P10.1 and P10.2: the least disks, and the greatest.
func TestSizes(t *testing.T) {
	for _, size := range []int{131, 132, 137, 138, 139, 145, 146, 147, 4095, 4096} {
		p := both(t, size)
		n := size - 130
		if p.f.Free() != n || p.f.Meta() != 130 || p.f.Total() != size || p.f.Used() != 0 {
			t.Errorf("%d: free %d, meta %d, total %d", size, p.f.Free(), p.f.Meta(), p.f.Total())
		}
		if n > 128 {
			continue
		}
		p.wants(api.ErrSpace, put("a", text(512*n+1, 1)))
		p.wants(api.OK, put("a", text(512*n, 1)))
		p.wants(api.ErrSpace, put("b", "x"))
		p.wants(api.OK, create("b"))
		p.open()
	}
}

// P10.1: which transactions there are, sector by sector, wherever it stops.
func TestFormatSteps(t *testing.T) {
	formatFails(t, blank(t, 140))
	d := formatted(t, 140)
	f := opened(t, d)
	for i := range 128 {
		does(t, f, put(fmt.Sprint("file ", i), strings.Repeat("x", i%2*i/120)))
	}
	formatFails(t, d)
}

// formatFails holds Format against the words, of copies of a disk.
func formatFails(t *testing.T, disk *sectors.Disk) {
	t.Helper()
	for n := range 300 {
		d, twin := copyOf(t, disk), copyOf(t, disk)
		keep := slices.Repeat([]bool{true, true, n%2 == 0}, 100)
		d.Fail(n, keep)
		twin.Fail(n, keep)
		e, want := Format(d), formatByWords(twin)
		if e != want || d.Up() != twin.Up() || d.Loose() != twin.Loose() {
			t.Fatalf("%d: Format: %d; want %d; loose %d; want %d", n, int(e), int(want), d.Loose(), twin.Loose())
		}
		if !d.Up() {
			d.Start()
			twin.Start()
		}
		for k := range d.Size() {
			s, _ := d.Read(k)
			if want, _ := twin.Read(k); s != want {
				t.Fatalf("%d: sector %d has %.20q; want %.20q", n, k, s, want)
			}
		}
		if e == api.OK {
			return
		}
	}
	t.Error("Format has too many changes")
}

// P10.1: what was there is gone.
func TestFormatAgain(t *testing.T) {
	d := formatted(t, 200)
	f := opened(t, d)
	for i := range 60 {
		does(t, f, put(fmt.Sprint(i), "bytes"))
	}
	tells(t, "Format", Format(d), api.OK)
	g := opened(t, d)
	if len(g.List()) != 0 || g.Used() != 0 || g.Free() != 70 {
		t.Errorf("%q, used %d, free %d", g.List(), g.Used(), g.Free())
	}
	d.Crash(nil)
	d.Start()
	if g = opened(t, d); len(contents(t, g)) != 0 {
		t.Errorf("%q", g.List())
	}
}

// fails fails, if Open does not tell the error, and nothing else.
func fails(t *testing.T, what string, d *sectors.Disk, want api.Errno) {
	t.Helper()
	if f, e := Open(d); f != nil || e != want {
		t.Errorf("%s: Open: %v, %d; want %d", what, f, int(e), int(want))
	}
}

// P10.2: the errors of the journal, and a journal that is too small.
func TestOpenErrors(t *testing.T) {
	fails(t, "nil", nil, api.ErrNil)
	fails(t, "none", &sectors.Disk{}, api.ErrNil)
	down := formatted(t, 200)
	down.Crash(nil)
	fails(t, "down", down, api.ErrDown)
	fails(t, "too small for a journal", blank(t, 72), api.ErrArg)
	fails(t, "not formatted", blank(t, 200), api.ErrBroke)
	fails(t, "not formatted, and small", blank(t, 130), api.ErrBroke)
	for _, size := range []int{73, 129, 130} {
		d := blank(t, size)
		journal.Format(d)
		fails(t, fmt.Sprint(size, " sectors"), d, api.ErrArg)
	}
	for _, size := range []int{131, 132, 200} {
		d := blank(t, size)
		journal.Format(d)
		fails(t, fmt.Sprint("a journal alone, of ", size), d, api.ErrBroke)
	}
	for n := range 3 {
		d := formatted(t, 200)
		d.Fail(n, nil)
		fails(t, fmt.Sprint("it fails: ", n), d, api.ErrDown)
	}
}

// two is a disk of 150 sectors (20 blocks) with a, of the blocks 0 and 1, and b, of the block 2.
func two(t *testing.T) *sectors.Disk {
	t.Helper()
	d := formatted(t, 150)
	does(t, opened(t, d), put("a", text(600, 1)), put("b", text(500, 2)))
	opened(t, d) // so that nothing of the log is done once more
	return d
}

// summed puts the sum behind the first 508 bytes of a sector of bits.
func summed(s string) string {
	return string(binary.LittleEndian.AppendUint32([]byte(s[:508]), crc32.ChecksumIEEE([]byte(s[:508]))))
}

// with is a text of which one byte is another one.
func with(s string, at int, b byte) string { return s[:at] + string([]byte{b}) + s[at+1:] }

// P10.2: a sector of the bits with each of its parts another one.
func TestOpenBits(t *testing.T) {
	good, _ := two(t).Read(65)
	if good != bitsBytes([]int{0, 1, 2}) {
		t.Fatalf("the bits: %.20q", good)
	}
	for what, s := range map[string]string{
		"no bits at all":           bitsBytes(nil),
		"a block that no file has": bitsBytes([]int{0, 1, 2, 3}),
		"the last block, too":      bitsBytes([]int{0, 1, 2, 19}),
		"a clear first bit":        bitsBytes([]int{1, 2}),
		"a clear last bit":         bitsBytes([]int{0, 1}),
		"another block":            bitsBytes([]int{0, 1, 3}),
		"a bit behind the last":    bitsBytes([]int{0, 1, 2, 20}),
		"a bit further behind":     bitsBytes([]int{0, 1, 2, 24}),
		"the last bit of 508":      bitsBytes([]int{0, 1, 2, 508*8 - 1}),
		"bytes 0":                  strings.Repeat("\x00", 512),
		"letters":                  strings.Repeat("x", 512),
	} {
		d := two(t)
		d.Write(65, s)
		fails(t, what, d, api.ErrBroke)
	}
	base := two(t)
	for at := range 512 {
		for _, turn := range []byte{1, 128, 255} {
			d := copyOf(t, base)
			d.Write(65, with(good, at, good[at]^turn))
			fails(t, fmt.Sprint("byte ", at), d, api.ErrBroke)
			if at < 508 {
				d.Write(65, summed(with(good, at, good[at]^turn)))
				fails(t, fmt.Sprint("byte ", at, ", summed up"), d, api.ErrBroke)
			}
		}
	}
}

// placed writes two files into the places of a sector, beside the right bits.
func placed(d *sectors.Disk, sector int, first, second *known, used ...int) {
	d.Write(65, bitsBytes(used))
	d.Write(65+sector, placeBytes(first)+placeBytes(second))
}

// P10.2: places that are none, and files that may not be beside each other.
func TestOpenPlaces(t *testing.T) {
	a := &known{name: "a", data: text(600, 1), blocks: []int{0, 1}}
	b := &known{name: "b", data: text(500, 2), blocks: []int{2}}
	d := two(t)
	placed(d, 1, a, b, 0, 1, 2)
	if l := opened(t, d).List(); !slices.Equal(l, []string{"a", "b"}) {
		t.Fatalf("%q", l)
	}
	for what, c := range map[string]*known{
		"a block beyond the last": {name: "c", data: "x", blocks: []int{20}},
		"one far beyond":          {name: "c", data: "x", blocks: []int{4095}},
		"blocks that go beyond":   {name: "c", data: text(1000, 1), blocks: []int{19, 20}},
		"a block of another file": {name: "c", data: "x", blocks: []int{1}},
		"the name of another":     {name: "a", data: "x", blocks: []int{3}},
		"the name, without bytes": {name: "a"},
	} {
		d := two(t)
		used := []int{0, 1, 2}
		for _, n := range c.blocks {
			if n < 20 && !slices.Contains(used, n) {
				used = append(used, n)
			}
		}
		placed(d, 64, nil, c, used...)
		fails(t, what, d, api.ErrBroke)
		d = two(t)
		placed(d, 1, a, c, used...)
		if c.name == "a" {
			fails(t, what+", beside it", d, api.ErrBroke)
		}
	}
	for _, sector := range []int{1, 2, 33, 64} {
		good, _ := d.Read(65 + sector)
		for _, at := range []int{0, 1, 96, 97, 101, 102, 133, 134, 137, 138, 255, 256, 257, 352, 353, 357, 358, 389, 390, 393, 394, 511} {
			d := two(t)
			d.Write(65+sector, with(good, at, good[at]^2))
			fails(t, fmt.Sprint("sector ", sector, ", byte ", at), d, api.ErrBroke)
		}
	}
}

// P10.2: files at any places are found, in blocks of any order.
func TestOpenAnywhere(t *testing.T) {
	d := formatted(t, 150)
	opened(t, d) // so that nothing of the log is done once more
	last := &known{name: "last", data: text(1500, 1), blocks: []int{17, 18, 19}}
	middle := &known{name: "middle", data: text(513, 2), blocks: []int{0, 9}}
	d.Write(65, bitsBytes([]int{0, 9, 17, 18, 19}))
	d.Write(65+64, placeBytes(nil)+placeBytes(last))
	d.Write(65+30, placeBytes(middle)+placeBytes(nil))
	for _, k := range []*known{last, middle} {
		for i, b := range k.blocks {
			d.Write(130+b, (k.data + strings.Repeat("\x00", 512))[512*i:][:512])
		}
	}
	f := opened(t, d)
	if all := contents(t, f); !maps.Equal(all, map[string]string{"last": last.data, "middle": middle.data}) {
		t.Errorf("%q", f.List())
	}
	// The lowest place, and the first blocks, that none has.
	does(t, f, put("new", text(600, 3)))
	if s, _ := d.Read(66); s != placeBytes(&known{name: "new", data: text(600, 3), blocks: []int{1, 2}})+placeBytes(nil) {
		t.Errorf("%.30q", s)
	}
	if s, _ := d.Read(65); s != bitsBytes([]int{0, 1, 2, 9, 17, 18, 19}) {
		t.Errorf("%.30q", s)
	}
}

// P10.2: nothing but the journal is written.
func TestOpenWritesNothing(t *testing.T) {
	d, twin := two(t), two(t)
	opened(t, d)
	journal.Open(twin)
	for n := range 150 {
		s, _ := d.Read(n)
		if want, _ := twin.Read(n); s != want {
			t.Errorf("sector %d", n)
		}
	}
	if d.Loose() != 0 {
		t.Errorf("%d are loose", d.Loose())
	}
}

// P10.3: each kind, of files that are there, and of those that are not.
func TestKinds(t *testing.T) {
	p := both(t, 150)
	p.wants(api.OK, create("a"))
	p.wants(api.ErrHave, create("a"))
	p.wants(api.ErrNone, add("b", "x"))
	p.wants(api.ErrNone, add("b", ""))
	p.wants(api.OK, add("a", "x"))
	p.wants(api.OK, add("a", text(511, 1)))
	p.wants(api.OK, add("a", "y"))
	p.wants(api.OK, put("a", "just this"))
	p.wants(api.OK, put("b", text(1025, 2)))
	p.wants(api.ErrNone, rename("c", "a"))
	p.wants(api.ErrNone, rename("c", "c"))
	p.wants(api.OK, rename("a", "c"))
	p.wants(api.OK, rename("c", "b"))
	p.wants(api.ErrNone, remove("a"))
	p.wants(api.OK, remove("b"))
	p.wants(api.ErrNone, remove("b"))
	p.wants(api.OK)
}

// P10.3: none, ten, and eleven at once.
func TestCount(t *testing.T) {
	p := both(t, 200)
	var l []api.FileOp
	for i := range 10 {
		l = append(l, put(fmt.Sprint(i), text(i*100, i)))
	}
	p.wants(api.OK)
	p.wants(api.ErrMany, append(l, create("x"))...)
	p.wants(api.ErrMany, make([]api.FileOp, 11)...)
	p.wants(api.ErrMany, make([]api.FileOp, 1000)...)
	p.wants(api.OK, l...)
	// Ten renames, each over another file: of twenty places at once.
	for i := range 2 {
		for k := range l {
			l[k] = put(fmt.Sprint(10*i+k), "x")
		}
		p.wants(api.OK, l...)
	}
	for k := range l {
		l[k] = rename(fmt.Sprint(k), fmt.Sprint(10+k))
	}
	p.wants(api.OK, l...)
	p.open()
}

// P10.3: twenty places in twenty sectors are other ones, beside that of the bits.
func TestMostSectors(t *testing.T) {
	p := both(t, 200)
	for i := range 40 {
		p.wants(api.OK, put(fmt.Sprint(i), "x"))
	}
	var l []api.FileOp
	for i := range 10 {
		l = append(l, rename(fmt.Sprint(4*i), fmt.Sprint(4*i+2)))
	}
	p.wants(api.OK, l...)
	p.open()
}

// P10.3: files of as many bytes as fill blocks, and of one less or more.
func TestFileSizes(t *testing.T) {
	p := both(t, 400)
	for _, size := range []int{0, 1, 511, 512, 513, 1023, 1024, 1025, 65535, 65536} {
		p.wants(api.OK, put("a", text(size, size)))
		p.open()
		p.wants(api.OK, remove("a"))
	}
	for _, size := range []int{65537, 65538, 1 << 20} {
		p.wants(api.ErrLong, put("a", text(size, 1)))
	}
}

// P10.3: appends that come to 65536 bytes, and to one more.
func TestAppendLong(t *testing.T) {
	p := both(t, 800)
	p.wants(api.OK, put("a", text(65530, 1)), create("b"))
	p.wants(api.ErrLong, add("a", text(7, 2)))
	p.wants(api.OK, add("a", text(6, 2)))
	p.wants(api.ErrLong, add("a", "x"))
	p.wants(api.OK, add("a", ""))
	p.wants(api.ErrLong, add("b", text(65537, 3)))
	p.wants(api.ErrLong, put("b", text(1, 3)), add("b", text(65536, 3)))
	p.wants(api.ErrLong, add("b", text(1<<20, 3)))
	p.wants(api.OK, add("b", text(65536, 3)))
	// Nothing is behind it in thought either.
	p.wants(api.ErrLong, put("b", text(65535, 4)), add("b", "x"), add("b", "y"))
	p.open()
}

// P10.3: no bytes: of a file that has some, and of one that has none.
func TestNoBytes(t *testing.T) {
	p := both(t, 140)
	p.wants(api.OK, create("none"), put("some", text(700, 1)))
	before, _ := p.disk.Read(66)
	p.wants(api.OK, add("none", ""))
	p.wants(api.OK, add("some", ""))
	p.wants(api.OK, put("none", ""))
	if after, _ := p.disk.Read(66); after != before {
		t.Errorf("a place is another one")
	}
	p.wants(api.OK, put("some", ""))
	p.wants(api.OK, put("new", ""))
	p.open()
	// Also where no block is free, none is needed.
	p.wants(api.OK, put("full", text(5120, 1)))
	p.wants(api.OK, put("one more", ""), create("and one"), add("and one", ""), put("full", ""))
	p.open()
}

// P10.3: 128 files, and one more.
func TestMaxFiles(t *testing.T) {
	p := both(t, 140)
	for i := 0; i < 120; i += 10 {
		var l []api.FileOp
		for k := range 10 {
			l = append(l, create(fmt.Sprint("file ", i+k)))
		}
		p.wants(api.OK, l...)
	}
	for i := 120; i < 128; i++ {
		p.wants(api.OK, put(fmt.Sprint("file ", i), "x"))
	}
	p.wants(api.ErrMany, create("x"))
	p.wants(api.ErrMany, put("x", ""))
	p.wants(api.ErrMany, put("x", "x"))
	p.wants(api.ErrHave, create("file 127"))
	p.wants(api.OK, put("file 127", "y"))
	p.wants(api.OK, rename("file 3", "x"))
	p.wants(api.ErrMany, create("y"), remove("x"))
	p.wants(api.OK, remove("file 77"), remove("file 7"), create("y"), put("z", "z"))
	p.wants(api.ErrMany, create("u"))
	// One that goes as another has its name leaves its place, too.
	p.wants(api.OK, rename("x", "file 0"), create("u"))
	p.open()
	if l := p.f.List(); len(l) != 128 {
		t.Errorf("%d files", len(l))
	}
}

// P10.3: the lowest place that none has, then.
func TestLowestPlace(t *testing.T) {
	p := both(t, 140)
	p.wants(api.OK, create("0"), create("1"), create("2"), create("3"))
	p.wants(api.OK, create("4"), remove("1"), create("5"), create("6"))
	p.wants(api.OK, remove("2"), remove("0"))
	p.wants(api.OK, put("7", "x"), put("8", "x"), put("9", "x"))
	for place, name := range []string{"7", "5", "8", "3", "4", "6", "9"} {
		if at := p.m.file(name); at != place {
			t.Errorf("%s is at %d; want %d", name, at, place)
		}
	}
	// A file keeps its place, whatever is done with it, but not if it goes and comes.
	p.wants(api.OK, remove("7"))
	p.wants(api.OK, put("9", text(1000, 1)), add("9", "x"), rename("9", "3"), rename("3", "9"))
	p.wants(api.OK, remove("9"), create("9"))
	if at := p.m.file("9"); at != 0 {
		t.Errorf("9 is at %d", at)
	}
}

// P10.3: a rename to a name that another file has, to one that none has, and to its own.
func TestRename(t *testing.T) {
	p := both(t, 140)
	p.wants(api.OK, put("a", "of a"), put("b", text(600, 1)), put("c", "of c"))
	p.wants(api.OK, rename("a", "b"))
	p.wants(api.OK, rename("b", "d"))
	p.wants(api.OK, rename("d", "d"))
	p.wants(api.OK, rename("d", "c"), rename("c", "a"))
	// Names go around.
	p.wants(api.OK, put("b", "of b"))
	p.wants(api.OK, rename("a", "x"), rename("b", "a"), rename("x", "b"))
	p.open()
	if s, _ := p.f.Read("a", 0, 9); s != "of b" {
		t.Errorf("%q", s)
	}
}

// P10.3: names of 1, 96 and 97 bytes, of none, with bytes 0, and that are no UTF-8.
func TestNames(t *testing.T) {
	p := both(t, 160)
	good := []string{"a", "\x00", "\x00\x00", "a\x00", "a\x00b", "\xff", "\xff\xfe", "\xc3", "ä", "日本", " ", "/", "..", "a/b", strings.Repeat("n", 96), strings.Repeat("\x00", 96), strings.Repeat("\xff", 96)}
	for i, name := range good {
		p.wants(api.OK, put(name, fmt.Sprint("bytes ", i)))
		p.wants(api.OK, rename(name, name))
	}
	p.open()
	for _, name := range []string{"", strings.Repeat("n", 97), strings.Repeat("\x00", 97), strings.Repeat("n", 1<<16)} {
		for kind := range 7 {
			p.wants(api.ErrArg, api.FileOp{Kind: kind, Name: name, To: "b", Data: "x"})
		}
		p.wants(api.ErrArg, rename("a", name))
		p.wants(api.ErrArg, rename("none", name))
	}
	// Other kinds do not look at To, or at Data.
	p.wants(api.OK, api.FileOp{Kind: api.FiCreate, Name: "k", To: strings.Repeat("n", 97), Data: text(1<<17, 1)})
	p.wants(api.OK, api.FileOp{Kind: api.FiAppend, Name: "k", To: "a", Data: "x"})
	p.wants(api.OK, api.FileOp{Kind: api.FiReplace, Name: "k", To: "", Data: "y"})
	p.wants(api.OK, api.FileOp{Kind: api.FiRename, Name: "k", To: "l", Data: text(1<<17, 1)})
	p.wants(api.OK, api.FileOp{Kind: api.FiDelete, Name: "l", To: "a", Data: text(1<<17, 1)})
	p.open()
}

// P10.3: kinds that are none.
func TestNoKind(t *testing.T) {
	p := both(t, 140)
	p.wants(api.OK, put("a", "x"))
	for _, kind := range append([]int{0, 6, 7}, far...) {
		for _, name := range []string{"", "a", "b", strings.Repeat("n", 97)} {
			p.wants(api.ErrArg, api.FileOp{Kind: kind, Name: name, To: "c", Data: text(65537, 1)})
		}
	}
	p.wants(api.ErrArg, make([]api.FileOp, 1)...)
	p.wants(api.ErrArg, make([]api.FileOp, 10)...)
}

// P10.3: which error is told where two hold.
func TestWhichError(t *testing.T) {
	p := both(t, 140)
	long, none := text(65537, 1), strings.Repeat("n", 97)
	p.wants(api.OK, put("a", "x"), put("full", text(512*9, 2)))
	p.wants(api.ErrNone, add("b", long))
	p.wants(api.ErrArg, rename("b", none))
	p.wants(api.ErrLong, add("a", long[:65536]))
	p.wants(api.ErrLong, put("a", long))
	p.wants(api.ErrSpace, put("a", "y"))
	p.wants(api.ErrSpace, add("a", long[:65535]))
	for i := range 126 {
		p.wants(api.OK, create(fmt.Sprint(i)))
	}
	p.wants(api.ErrMany, put("new", "x"))
	p.wants(api.ErrLong, put("new", long))
	p.wants(api.ErrSpace, put("0", "x"))
	p.wants(api.ErrHave, create("a"))
	p.wants(api.ErrNone, add("new", "x"))
	// The first thing that is refused tells the error.
	p.wants(api.ErrMany, put("new", "x"), create("a"))
	p.wants(api.ErrHave, create("a"), put("new", "x"))
	p.wants(api.ErrNone, remove("new"), api.FileOp{})
	p.wants(api.ErrArg, api.FileOp{}, remove("new"))
	p.wants(api.ErrMany, make([]api.FileOp, 11)...)
	p.crash(nil)
	p.wants(api.ErrDown, make([]api.FileOp, 11)...)
	p.wants(api.ErrDown, api.FileOp{})
}

// P10.3: an error anywhere in the list: nothing changes, and nothing is written.
func TestNothingChanges(t *testing.T) {
	p := both(t, 150)
	p.wants(api.OK, put("a", text(700, 1)), put("b", "x"), create("c"))
	good := ops(put("a", "new"), add("b", "new"), rename("c", "d"), remove("b"), create("e"), put("e", text(1000, 2)), rename("e", "a"))
	for _, bad := range ops(api.FileOp{}, create("a"), create("d"), add("c", "x"), put("x", text(65537, 1)), put("x", text(512*19, 1)), rename("c", "x"), rename("d", ""), remove("zz")) {
		refused := 0
		for i := range len(good) + 1 {
			l := slices.Insert(slices.Clone(good), i, bad)
			want := p.m.clone().do(l)
			if want == api.OK {
				continue
			}
			refused++
			p.disk.Fail(0, nil)
			p.wants(want, l...)
			if !p.disk.Up() {
				t.Fatalf("something was written: %d at %d", bad.Kind, i)
			}
		}
		if refused < 3 {
			t.Errorf("%d, %q is refused at %d places alone", bad.Kind, bad.Name, refused)
		}
	}
}

// clone is the same files, on another disk.
func (m *words) clone() *words {
	d, _ := sectors.New(m.disk.Size())
	journal.Format(d)
	j, _ := journal.Open(d)
	return &words{disk: d, log: j, places: m.places}
}

// P10.3: bytes that are given twice in one Do: the second ones, of blocks that no file had, nor has got meanwhile.
func TestTwice(t *testing.T) {
	p := both(t, 140)
	p.wants(api.OK, put("a", text(1000, 1)))
	p.wants(api.OK, put("a", text(1000, 2)), put("a", text(1000, 3)))
	if s, _ := p.disk.Read(65); s != bitsBytes([]int{4, 5}) {
		t.Errorf("the bits: %.10q", s)
	}
	if s, _ := p.disk.Read(130 + 2); s != strings.Repeat("\x00", 512) {
		t.Errorf("the first bytes were written")
	}
	// Now 0 to 3 and 6 to 9 are free: three times two blocks are there, and no more.
	p.wants(api.OK, put("a", text(1000, 4)), add("a", "x"), put("b", text(512*4, 5)))
	p.wants(api.OK, put("b", ""))
	p.wants(api.ErrSpace, put("b", text(512*5, 5)), put("b", text(512*4, 6)))
	p.wants(api.ErrSpace, put("b", text(512*5, 5)), remove("b"), put("c", text(512*4, 6)))
	p.wants(api.ErrSpace, put("b", text(512*5, 5)), rename("b", "a"), put("c", text(512*4, 6)))
	p.wants(api.ErrSpace, remove("a"), put("b", text(512*9, 6)))
	p.wants(api.OK, put("b", text(512*5, 5)), put("b", text(512*3, 6)))
	p.wants(api.OK, put("b", ""), add("b", "one"), add("b", " and two"), add("b", ""), add("b", " and three"))
	p.wants(api.OK, put("b", "one"), put("b", ""), add("b", "two"))
	p.open()
}

// P10.3: bytes that are given, and the file is deleted, or renamed, in the same Do.
func TestGivenAndGone(t *testing.T) {
	p := both(t, 150)
	p.wants(api.OK, put("a", text(600, 1)), put("b", text(600, 2)))
	p.wants(api.OK, put("a", text(700, 3)), remove("a"))
	p.wants(api.OK, put("b", text(700, 4)), rename("b", "c"))
	p.wants(api.OK, put("a", text(800, 5)), rename("a", "c"), add("c", text(800, 6)))
	p.wants(api.OK, put("a", text(100, 7)), put("d", text(100, 8)), rename("a", "d"), rename("d", "c"))
	p.wants(api.OK, put("x", text(100, 9)), remove("x"), create("x"))
	p.wants(api.OK, put("x", text(100, 10)), remove("x"))
	p.wants(api.OK, put("x", text(100, 11)), remove("x"), put("y", text(200, 12)))
	p.wants(api.OK, put("u", "of u"), remove("u"), create("v"), add("v", "of v"))
	p.wants(api.OK, put("u", "of u"), rename("v", "u"), create("w"), add("w", "of w"))
	p.wants(api.OK, remove("c"), put("c", text(300, 13)))
	p.wants(api.OK, remove("c"), create("c"), add("c", "its new bytes alone"))
	p.wants(api.OK, rename("c", "z"), create("c"), add("z", " and others"), add("c", "c"))
	p.open()
}

// P10.3: blocks that are free, but do not stand together: eight extents, and nine.
func TestExtents(t *testing.T) {
	p := both(t, 130+20)
	for i := range 20 {
		p.wants(api.OK, put(fmt.Sprint(i), "x"))
	}
	for i := 0; i < 20; i += 2 {
		p.wants(api.OK, remove(fmt.Sprint(i)))
	}
	p.wants(api.ErrSpace, put("a", text(512*8+1, 1)))
	p.wants(api.ErrSpace, put("a", text(512*10, 1)))
	p.wants(api.OK, put("a", text(512*8, 1)))
	p.open()
	p.wants(api.OK, put("b", text(512*2, 2)))
	p.wants(api.ErrSpace, put("a", "x"))
	p.wants(api.OK, remove("a"), remove("b"))
	p.wants(api.OK, remove("1"))
	// Now 0 to 2 stand together.
	p.wants(api.OK, put("a", text(512*10, 3)))
	p.wants(api.OK, remove("a"))
	p.wants(api.ErrSpace, put("a", text(512*10+1, 3)))
	p.wants(api.OK, put("a", text(512*2+1, 4)))
	p.open()
}

// P10.3: a Do that changes no place and no bit writes nothing.
func TestWritesNothing(t *testing.T) {
	p := both(t, 150)
	p.wants(api.OK, create("none"), put("some", text(700, 1)))
	for i, l := range [][]api.FileOp{
		nil,
		ops(add("some", "")),
		ops(add("none", "")),
		ops(put("none", "")),
		ops(rename("some", "some")),
		ops(create("x"), remove("x")),
		ops(put("x", "bytes"), remove("x")),
		ops(put("none", "bytes"), put("none", "")),
		ops(remove("none"), create("none")),
		ops(rename("some", "x"), rename("x", "some")),
		ops(put("x", text(5000, 2)), remove("x"), put("none", "y"), remove("none"), create("y"), rename("y", "none")),
	} {
		p.fail(0, nil)
		loose := p.disk.Loose()
		p.wants(api.OK, l...)
		if !p.disk.Up() || p.disk.Loose() != loose {
			t.Errorf("%d: something was written", i)
		}
	}
	p.wants(api.ErrDown, create("x"))
}

// P10.3: which sectors are written, and in which order: each change that is done shows one more.
func TestOrder(t *testing.T) {
	l := ops(put("c", text(1100, 3)), put("a", text(600, 4)), remove("b"), put("e", "gone"), remove("e"), put("f", ""), add("d", text(513, 5)), put("f", "of f"))
	d, f := ahead(t)
	last := sectorsOf(d)
	var order []int
	for n := range 100 {
		d, f = ahead(t)
		d.Fail(n, slices.Repeat([]bool{true}, 100))
		e := f.Do(l)
		if !d.Up() {
			d.Start()
		}
		now := sectorsOf(d)
		for k := range last {
			if now[k] != last[k] {
				order = append(order, k)
			}
		}
		last = now
		if e == api.OK {
			break
		}
	}
	// Of the blocks 0 to 2 are in use. c's are 3 to 5, a's 6 and 7, e's would be 8, d's are 9 and 10, f's 11; f is at the place of b.
	want := []int{136, 137, 141, 133, 134, 135, 139, 140}
	// Format's transactions have 22, 22, 22 and 3 of the log's places, the first Do's 4: the next head stands at the place 9.
	want = append(want, 11, 12, 13, 10, 65, 66, 67)
	if !slices.Equal(order, want) {
		t.Errorf("the order is %v; want %v", order, want)
	}
}

// ahead is a disk of 160 sectors with four files.
func ahead(t *testing.T) (*sectors.Disk, *FS) {
	t.Helper()
	d := formatted(t, 160)
	does(t, opened(t, d), put("a", "old a"), put("b", "old b"), put("c", "old c"), create("d"))
	return d, opened(t, d)
}

// sectorsOf is what all of a disk's have.
func sectorsOf(d *sectors.Disk) []string {
	var l []string
	for n := range d.Size() {
		s, _ := d.Read(n)
		l = append(l, s)
	}
	return l
}

// P10.4: from 0, from the size on, and from behind it; of no bytes, and of more than there are.
func TestRead(t *testing.T) {
	d := formatted(t, 150)
	f := opened(t, d)
	sizes := map[string]int{"none": 0, "one": 1, "block": 512, "more": 513, "three": 1500}
	for name, size := range sizes {
		does(t, f, put(name, text(size, size)))
	}
	for name, size := range sizes {
		data := text(size, size)
		for _, at := range append([]int{0, 1, 2, 511, 512, 513, 1023, 1024, 1025, 1499, 1500, 1501, size - 1, size, size + 1}, far...) {
			for _, n := range append([]int{0, 1, 2, 510, 511, 512, 513, 1024, 1500, 1501, size - 1, size, size + 1}, far...) {
				want, wantErr := "", api.ErrArg
				if at >= 0 && at <= size && n >= 0 {
					want, wantErr = data[at:], api.OK
					want = want[:min(n, len(want))]
				}
				if s, e := f.Read(name, at, n); s != want || e != wantErr {
					t.Errorf("Read(%s, %d, %d): %d bytes, %d; want %d, %d", name, at, n, len(s), int(e), len(want), int(wantErr))
				}
			}
		}
	}
	for _, name := range []string{"", "no", "Block", "block ", strings.Repeat("n", 97)} {
		for _, at := range []int{-1, 0, 1} {
			if s, e := f.Read(name, at, -1); s != "" || e != api.ErrNone {
				t.Errorf("Read(%q, %d): %q, %d", name, at, s, int(e))
			}
		}
		if n, e := f.Size(name); n != 0 || e != api.ErrNone || f.Blocks(name) != 0 {
			t.Errorf("Size(%q): %d, %d, %d blocks", name, n, int(e), f.Blocks(name))
		}
	}
}

// P10.4: of blocks that do not stand together.
func TestReadParts(t *testing.T) {
	p := both(t, 140)
	for i := range 10 {
		p.wants(api.OK, put(fmt.Sprint(i), "x"))
	}
	p.wants(api.OK, remove("1"), remove("4"), remove("5"), remove("8"))
	data := text(512*3+77, 1)
	p.wants(api.OK, put("a", data))
	for at := 0; at <= len(data); at += 37 {
		for n := 0; n <= 1100; n += 91 {
			want := data[at:min(at+n, len(data))]
			if s, e := p.f.Read("a", at, n); s != want || e != api.OK {
				t.Fatalf("Read(%d, %d): %d bytes, %d", at, n, len(s), int(e))
			}
		}
	}
}

// P10.4: all names, rising byte by byte, whatever the places.
func TestList(t *testing.T) {
	d := formatted(t, 150)
	f := opened(t, d)
	names := []string{"b", "a", "B", "aa", "a\x00", "\xff", "ä", "z", "10", "9", "\x00", "a b", "A", "ab"}
	for _, name := range names {
		does(t, f, create(name))
	}
	slices.Sort(names)
	l := f.List()
	if !slices.Equal(l, names) {
		t.Errorf("%q; want %q", l, names)
	}
	// What was told is the caller's own (R4).
	l[0] = "other"
	clear(f.List()[1:])
	if !slices.Equal(f.List(), names) || !slices.Equal(opened(t, d).List(), names) {
		t.Errorf("%q", f.List())
	}
}

// R4: the list that is handed in stays as it was, and is not looked at later.
func TestArguments(t *testing.T) {
	d := formatted(t, 150)
	f := opened(t, d)
	l := make([]api.FileOp, 2, 9)
	l[0], l[1] = put("a", "x"), rename("a", "b")
	want := slices.Clone(l)
	does(t, f, l...)
	tells(t, "Do", f.Do(l[:1]), api.OK)
	if !slices.Equal(l, want) || !slices.Equal(l[:9][2:], make([]api.FileOp, 7)) {
		t.Errorf("%v", l)
	}
	l[0] = put("z", "other")
	if got := contents(t, f); !maps.Equal(got, map[string]string{"a": "x", "b": "x"}) {
		t.Errorf("%v", got)
	}
}

// A copy of the value is the same files.
func TestCopy(t *testing.T) {
	f := opened(t, formatted(t, 150))
	g := *f
	does(t, f, put("a", "x"))
	does(t, &g, add("a", "y"))
	if s, _ := f.Read("a", 0, 9); s != "xy" || g.Used() != 1 {
		t.Errorf("%q, %d", s, g.Used())
	}
}

// R2: two disks go on by themselves.
func TestTwoDisks(t *testing.T) {
	f, g := opened(t, formatted(t, 150)), opened(t, formatted(t, 160))
	does(t, f, put("a", "of f"))
	does(t, g, put("a", "of g, and longer"), create("b"))
	if s, _ := f.Read("a", 0, 99); s != "of f" || len(f.List()) != 1 || f.Free() != 19 || g.Free() != 29 {
		t.Errorf("%q, %q", s, f.List())
	}
}

// P10.3 and P10.4: once the disk went down all but Read tell what was so then, also when it is up again.
func TestDown(t *testing.T) {
	d := formatted(t, 150)
	f := opened(t, d)
	does(t, f, put("a", text(700, 1)), create("b"))
	check := func(what string) {
		t.Helper()
		n, e := f.Size("a")
		_, g := f.Size("c")
		if n != 700 || e != api.OK || g != api.ErrNone || f.Blocks("a") != 2 || !slices.Equal(f.List(), []string{"a", "b"}) || f.Used() != 2 || f.Free() != 18 || f.Meta() != 130 || f.Total() != 150 {
			t.Errorf("%s: %d, %d, %q", what, n, int(e), f.List())
		}
		for _, name := range []string{"a", "b", "c", ""} {
			if s, e := f.Read(name, -1, -1); s != "" || e != api.ErrDown {
				t.Errorf("%s: Read: %q, %d", what, s, int(e))
			}
		}
		tells(t, what, f.Do(nil), api.ErrDown)
		tells(t, what, f.Do(make([]api.FileOp, 11)), api.ErrDown)
		tells(t, what, f.Do(ops(create("c"))), api.ErrDown)
		tells(t, what, f.Do(ops(api.FileOp{})), api.ErrDown)
	}
	d.Crash(nil)
	check("down")
	d.Start()
	check("up again")
	g := opened(t, d)
	does(t, g, put("a", "new"), create("c"))
	check("opened by others")
	d.Crash(nil)
	check("down again")
}

// P10.4: a Do that the disk stops leaves what is told as it was, wherever it stops.
func TestDoStops(t *testing.T) {
	for n := range 30 {
		d := two(t)
		f := opened(t, d)
		before := contents(t, f)
		d.Fail(n, slices.Repeat([]bool{true}, 50))
		e := f.Do(ops(put("a", text(2000, 3)), remove("b"), create("c")))
		if e == api.OK {
			return
		}
		tells(t, fmt.Sprint("change ", n), e, api.ErrDown)
		if l := f.List(); !slices.Equal(l, slices.Sorted(maps.Keys(before))) || f.Used() != 3 || f.Blocks("b") != 1 {
			t.Errorf("%d: %q, used %d", n, l, f.Used())
		}
	}
	t.Error("Do has too many changes")
}

// P10.1 to P10.4, and P0.1: many things by chance are as the words say, also behind crashes.
func TestAsTheWords(t *testing.T) {
	for seed := range 12 {
		r := &numbers{uint32(seed)*7919 + 1}
		p := both(t, []int{131, 135, 140, 150, 180, 300}[seed%6])
		for range 150 {
			switch r.below(12) {
			case 0:
				p.crash(r.keep())
				p.wants(api.ErrDown, r.ops()...)
				p.start()
				p.wants(api.ErrDown, r.ops()...)
				p.open()
			case 1:
				p.open()
			default:
				p.do(r.ops()...)
			}
		}
	}
}

// ops are some things, by chance, of few names.
func (r *numbers) ops() []api.FileOp {
	names := []string{"a", "b", "c", "dd", "e\x00", "f", "g", strings.Repeat("n", 96)}
	if r.below(20) == 0 {
		names = append(names, "", strings.Repeat("n", 97))
	}
	var l []api.FileOp
	for range []int{1, 1, 2, 3, 4, 10}[r.below(6)] {
		size := []int{0, 1, 3, 511, 512, 513, 1024, 2000, 4000, 20000}[r.below(10)]
		kind := []int{1, 2, 2, 3, 3, 3, 4, 5}[r.below(8)]
		l = append(l, api.FileOp{Kind: kind, Name: names[r.below(len(names))], To: names[r.below(len(names))], Data: text(size, r.below(1<<20))})
	}
	// So that not each longer list has something that is refused.
	if len(l) > 2 && r.below(2) == 0 {
		for i := range l {
			l[i].Kind = api.FiReplace
			l[i].Data = l[i].Data[:min(len(l[i].Data), 600)]
		}
	}
	return l
}

// keeps are some of the ways in which a disk may keep its loose writes.
func keeps() [][]bool {
	l := [][]bool{nil, slices.Repeat([]bool{true}, 200), slices.Repeat([]bool{true, false}, 100), slices.Repeat([]bool{false, true}, 100)}
	r := &numbers{77}
	for range 3 {
		l = append(l, r.keep())
	}
	return l
}

// reopened starts a disk, if it is down, and opens it; its Open fails, too, at each of its changes, ahead of that.
func reopened(t *testing.T, d *sectors.Disk, keep []bool) map[string]string {
	t.Helper()
	if !d.Up() {
		d.Start()
	}
	for n := range 400 {
		d.Fail(n, keep)
		f, e := Open(d)
		if e == api.ErrDown && !d.Up() {
			d.Start()
			continue
		}
		if e != api.OK {
			t.Fatalf("Open: %d", int(e))
		}
		d.Crash(nil)
		d.Start()
		if f = opened(t, d); f == nil {
			t.Fatal("none")
		}
		all := contents(t, f)
		if again := contents(t, opened(t, d)); !maps.Equal(again, all) {
			t.Fatalf("opened once more: %d files, ahead of it %d", len(again), len(all))
		}
		return all
	}
	t.Fatal("Open has too many changes")
	return nil
}

// P10.5: wherever the disk fails in a Do, the files are those ahead of it, or behind it, whole, and all that was told OK.
func TestCrashDo(t *testing.T) {
	steps := [][]api.FileOp{
		ops(put("a", text(600, 1)), put("b", text(500, 2)), create("c")),
		ops(add("a", text(600, 3)), put("b", text(10, 4))),
		ops(put("d", text(3000, 5)), remove("c"), rename("b", "c"), put("a", "")),
		ops(rename("c", "d"), create("b"), put("e", text(513, 6))),
		ops(remove("d"), remove("e"), put("f", text(4000, 7)), add("b", "x")),
	}
	for stop := range steps {
		for _, keep := range keeps() {
			for n := 0; crashesIn(t, steps, stop, n, keep); n++ {
			}
		}
	}
}

// crashesIn lets one of the steps fail at its n-th change; false: it has fewer.
func crashesIn(t *testing.T, steps [][]api.FileOp, stop, n int, keep []bool) bool {
	t.Helper()
	d := formatted(t, 160)
	f := opened(t, d)
	for _, l := range steps[:stop] {
		does(t, f, l...)
	}
	before := contents(t, f)
	d.Fail(n, keep)
	e := f.Do(steps[stop])
	told := f.List()
	if e == api.OK {
		before = contents(t, f)
		d.Crash(keep)
	} else if e != api.ErrDown || d.Up() || !slices.Equal(told, slices.Sorted(maps.Keys(before))) {
		t.Fatalf("step %d, change %d: %d, up %t, %q", stop, n, int(e), d.Up(), told)
	}
	got := reopened(t, d, keep)
	if !maps.Equal(got, before) && (e == api.OK || !maps.Equal(got, behind(t, steps[:stop+1]))) {
		t.Fatalf("step %d, change %d: %d: the files are %q", stop, n, int(e), slices.Sorted(maps.Keys(got)))
	}
	return e != api.OK
}

// behind are the files behind steps.
func behind(t *testing.T, steps [][]api.FileOp) map[string]string {
	t.Helper()
	f := opened(t, formatted(t, 160))
	for _, l := range steps {
		does(t, f, l...)
	}
	return contents(t, f)
}

// P10.5: wherever the disk fails, both happen: a Do is there behind some failures, and not behind others.
func TestCrashBoth(t *testing.T) {
	seen := map[int]bool{}
	for n := range 12 {
		d := formatted(t, 160)
		f := opened(t, d)
		d.Fail(n, nil)
		f.Do(ops(put("a", "x")))
		seen[len(reopened(t, d, nil))] = true
	}
	if !seen[0] || !seen[1] {
		t.Errorf("%v", seen)
	}
}

// P10.5: a disk that fails at Format's end: as soon as it was told OK, there are no files; of a blank disk from the first transaction on.
func TestCrashFormat(t *testing.T) {
	for _, keep := range keeps() {
		was := false
		for n := range 300 {
			d := blank(t, 150)
			d.Fail(n, keep)
			e := Format(d)
			if d.Up() {
				d.Crash(keep)
			}
			d.Start()
			f, g := Open(d)
			if g == api.OK {
				was = true
				if all := contents(t, f); len(all) != 0 || f.Free() != 20 {
					t.Errorf("change %d: %d files, free %d", n, len(all), f.Free())
				}
			} else if was || g != api.ErrBroke || e == api.OK {
				t.Fatalf("change %d: Format %d, Open %d", n, int(e), int(g))
			}
			if e == api.OK {
				break
			}
		}
		if !was {
			t.Error("it is never one without files")
		}
	}
}

// P10.5: of a disk that had files, from the last transaction on nothing is left, whatever of the loose writes is kept.
func TestCrashFormatAgain(t *testing.T) {
	for _, keep := range keeps() {
		d := formatted(t, 150)
		f := opened(t, d)
		for i := range 15 {
			does(t, f, put(fmt.Sprint(i), "x"))
		}
		tells(t, "Format", Format(d), api.OK)
		d.Crash(keep)
		if all := reopened(t, d, keep); len(all) != 0 {
			t.Errorf("%d files", len(all))
		}
	}
}

// P10.5 and P0.2: many Do, and crashes by chance: what was told OK is there.
func TestCrashByChance(t *testing.T) {
	for seed := range 15 {
		r := &numbers{uint32(seed)*104729 + 5}
		d := formatted(t, 150+10*seed)
		f := opened(t, d)
		known := contents(t, f)
		for range 60 {
			l := r.ops()
			twin := opened(t, copyOf(t, d))
			d.Fail(r.below(40), r.keep())
			e, want := f.Do(l), twin.Do(l)
			switch {
			case e == api.OK && want == api.OK:
				known = contents(t, twin)
				if got := contents(t, f); !maps.Equal(got, known) {
					t.Fatalf("seed %d: unlike files", seed)
				}
			case e == api.ErrDown:
				got := reopened(t, d, r.keep())
				if !maps.Equal(got, known) && (want != api.OK || !maps.Equal(got, contents(t, twin))) {
					t.Fatalf("seed %d: other files", seed)
				}
				known = got
				f = opened(t, d)
			case e != want:
				t.Fatalf("seed %d: %d; want %d", seed, int(e), int(want))
			}
		}
	}
}

// copyOf is another disk with what a disk has.
func copyOf(t *testing.T, d *sectors.Disk) *sectors.Disk {
	t.Helper()
	c := blank(t, d.Size())
	for n := range d.Size() {
		s, _ := d.Read(n)
		c.Write(n, s)
	}
	c.Flush()
	return c
}
