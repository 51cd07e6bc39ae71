package blobs

import (
	"crypto/sha256"
	"fmt"
	"maps"
	"math"
	"slices"
	"strings"
	"testing"

	"lighter/api"
	"lighter/extfs"
	"lighter/sectors"
)

const most = 65536 // bytes of a blob

// far are numbers that no blob has as a place or a count of bytes.
var far = []int{math.MinInt, math.MinInt + 1, -1 << 32, -most, -2, -1, most + 1, most + 2, 1 << 31, 1 << 32, math.MaxInt - 1, math.MaxInt}

// numbers are mixed ones.
type numbers struct{ last uint32 }

func (r *numbers) below(n int) int {
	r.last = r.last*1664525 + 1013904223
	return int(r.last>>8) % n
}

func (r *numbers) keep() []bool {
	l := make([]bool, r.below(40))
	for i := range l {
		l[i] = r.below(2) == 1
	}
	return l
}

// text is so many mixed bytes, also such as are 0.
func text(size, seed int) string {
	r := numbers{uint32(seed)*2654435761 + 12345}
	b := make([]byte, size)
	for i := range b {
		b[i] = byte(r.below(256))
	}
	return string(b)
}

func sum(s string) api.Digest          { return sha256.Sum256([]byte(s)) }
func blobFile(d api.Digest) string     { return fmt.Sprintf("b-%x", d[:]) }
func partFile(d api.Digest) string     { return fmt.Sprintf("p-%x", d[:]) }
func create(name string) api.FileOp    { return api.FileOp{Kind: api.FiCreate, Name: name} }
func add(name, data string) api.FileOp { return api.FileOp{Kind: api.FiAppend, Name: name, Data: data} }
func put(name, data string) api.FileOp {
	return api.FileOp{Kind: api.FiReplace, Name: name, Data: data}
}
func rename(name, to string) api.FileOp     { return api.FileOp{Kind: api.FiRename, Name: name, To: to} }
func remove(name string) api.FileOp         { return api.FileOp{Kind: api.FiDelete, Name: name} }
func rising(a, b api.Digest) int            { return strings.Compare(string(a[:]), string(b[:])) }
func ones(b byte) (d api.Digest)            { return api.Digest([]byte(strings.Repeat(string([]byte{b}), 32))) }
func first(b byte) (d api.Digest)           { d[0] = b; return d }
func last(b byte) (d api.Digest)            { d[31] = b; return d }
func isAt(l []api.Digest, d api.Digest) int { return slices.Index(l, d) }

// blank is a disk without files.
func blank(t *testing.T, size int) *sectors.Disk {
	t.Helper()
	d, e := sectors.New(size)
	if e != api.OK {
		t.Fatalf("New: %d", int(e))
	}
	if e := extfs.Format(d); e != api.OK {
		t.Fatalf("Format: %d", int(e))
	}
	return d
}

// copyOf is another disk with the same sectors.
func copyOf(t *testing.T, d *sectors.Disk) *sectors.Disk {
	t.Helper()
	twin, e := sectors.New(d.Size())
	for n := range d.Size() {
		data, _ := d.Read(n)
		e = max(e, twin.Write(n, data))
	}
	if e = max(e, twin.Flush()); e != api.OK {
		t.Fatalf("a copy of a disk: %d", int(e))
	}
	return twin
}

// filesOn are a disk's files.
func filesOn(t *testing.T, d *sectors.Disk) *extfs.FS {
	t.Helper()
	f, e := extfs.Open(d)
	if e != api.OK {
		t.Fatalf("Open of the files: %d", int(e))
	}
	return f
}

// storeOf is a store of files.
func storeOf(t *testing.T, f *extfs.FS) *Store {
	t.Helper()
	s, e := Open(f)
	if s == nil || e != api.OK {
		t.Fatalf("Open: %v, %d", s, int(e))
	}
	return s
}

// contents is what all files have.
func contents(t *testing.T, f *extfs.FS) map[string]string {
	t.Helper()
	all := map[string]string{}
	for _, name := range f.List() {
		s, e := f.Read(name, 0, most)
		if e != api.OK {
			t.Fatalf("Read of the file %q: %d", name, int(e))
		}
		all[name] = s
	}
	return all
}

// digestsIn are those whose files stand there, as the function names them.
func digestsIn(files map[string]string, among []api.Digest, file func(api.Digest) string) []api.Digest {
	var l []api.Digest
	for _, d := range among {
		if _, ok := files[file(d)]; ok {
			l = append(l, d)
		}
	}
	slices.SortFunc(l, rising)
	return l
}

// words is a store by the words of the document, on files of the layer below.
type words struct {
	disk    *sectors.Disk
	starts  int
	files   *extfs.FS
	texts   map[string]string // what the files have
	writing map[api.Digest]int
	held    map[api.Digest]int
}

// openByWords is the store of files.
func openByWords(t *testing.T, d *sectors.Disk, f *extfs.FS) *words {
	t.Helper()
	return &words{disk: d, starts: d.Starts(), files: f, texts: contents(t, f), writing: map[api.Digest]int{}, held: map[api.Digest]int{}}
}

func (m *words) down() bool { return !m.disk.Up() || m.disk.Starts() != m.starts }

// do does one thing with files, and with the texts if it was done.
func (m *words) do(op api.FileOp) api.Errno {
	if e := m.files.Do([]api.FileOp{op}); e != api.OK {
		return e
	}
	switch op.Kind {
	case api.FiCreate, api.FiReplace:
		m.texts[op.Name] = op.Data
	case api.FiAppend:
		m.texts[op.Name] += op.Data
	case api.FiRename:
		m.texts[op.To] = m.texts[op.Name]
		delete(m.texts, op.Name)
	case api.FiDelete:
		delete(m.texts, op.Name)
	}
	return api.OK
}

func (m *words) begin(d api.Digest, size int) (int, api.Errno) {
	if size < 0 || size > most {
		return 0, api.ErrArg
	}
	if _, ok := m.texts[blobFile(d)]; ok {
		return 0, api.ErrHave
	}
	have, ok := m.texts[partFile(d)]
	if !ok {
		if e := m.do(create(partFile(d))); e != api.OK {
			return 0, e
		}
	}
	if len(have) > size {
		if e := m.do(put(partFile(d), "")); e != api.OK {
			return 0, e
		}
	}
	if m.down() {
		return 0, api.ErrDown
	}
	m.writing[d] = size
	return len(m.texts[partFile(d)]), api.OK
}

func (m *words) write(d api.Digest, at int, data string) api.Errno {
	size, ok := m.writing[d]
	if !ok {
		return api.ErrNone
	}
	have := len(m.texts[partFile(d)])
	if at != have {
		return api.ErrArg
	}
	if have+len(data) > size {
		return api.ErrLong
	}
	return m.do(add(partFile(d), data))
}

func (m *words) commit(d api.Digest) api.Errno {
	size, ok := m.writing[d]
	if !ok {
		return api.ErrNone
	}
	if s := m.texts[partFile(d)]; len(s) != size || sum(s) != d {
		if e := m.drop(d); e != api.OK {
			return e
		}
		return api.ErrSum
	}
	if e := m.do(rename(partFile(d), blobFile(d))); e != api.OK {
		return e
	}
	delete(m.writing, d)
	return api.OK
}

func (m *words) drop(d api.Digest) api.Errno {
	if e := m.do(remove(partFile(d))); e != api.OK {
		return e
	}
	delete(m.writing, d)
	return api.OK
}

func (m *words) read(d api.Digest) (string, api.Errno) {
	if m.down() {
		return "", api.ErrDown
	}
	s, ok := m.texts[blobFile(d)]
	if !ok {
		return "", api.ErrNone
	}
	return s, api.OK
}

func (m *words) size(d api.Digest) (int, api.Errno) {
	s, ok := m.texts[blobFile(d)]
	if !ok {
		return 0, api.ErrNone
	}
	return len(s), api.OK
}

func (m *words) delete(d api.Digest) api.Errno {
	if m.held[d] > 0 {
		return api.ErrBusy
	}
	return m.do(remove(blobFile(d)))
}

func (m *words) hold(d api.Digest) api.Errno {
	if _, e := m.size(d); e != api.OK {
		return e
	}
	m.held[d]++
	return api.OK
}

func (m *words) free(d api.Digest) api.Errno {
	if m.held[d] == 0 {
		return api.ErrNone
	}
	m.held[d]--
	return api.OK
}

// pair is a store on a disk, and the words on a twin of it.
type pair struct {
	t          *testing.T
	disk, twin *sectors.Disk
	files      *extfs.FS
	s          *Store
	m          *words
	known      []api.Digest // that were named
}

// both is a pair on disks of so many sectors, without files.
func both(t *testing.T, size int) *pair {
	t.Helper()
	p := &pair{t: t, disk: blank(t, size), twin: blank(t, size)}
	p.open()
	return p
}

// open opens the files and the store once more.
func (p *pair) open() {
	p.t.Helper()
	p.files = filesOn(p.t, p.disk)
	p.s, p.m = storeOf(p.t, p.files), openByWords(p.t, p.twin, filesOn(p.t, p.twin))
	p.same("Open")
}

// another opens another store of the same files.
func (p *pair) another() {
	p.t.Helper()
	p.s, p.m = storeOf(p.t, p.files), openByWords(p.t, p.twin, p.m.files)
	p.same("Open of another store")
}

func (p *pair) fail(n int, keep []bool) {
	p.disk.Fail(n, keep)
	p.twin.Fail(n, keep)
}

func (p *pair) crash(keep []bool) {
	p.disk.Crash(keep)
	p.twin.Crash(keep)
}

func (p *pair) start() {
	p.disk.Start()
	p.twin.Start()
}

// name remembers a digest, so that it is looked at.
func (p *pair) name(d api.Digest) {
	if isAt(p.known, d) < 0 {
		p.known = append(p.known, d)
	}
}

// told fails, if an error is another one than by the words, and tells it.
func (p *pair) told(what string, e, want api.Errno) api.Errno {
	p.t.Helper()
	if e != want {
		p.t.Fatalf("%s: %d; want %d", what, int(e), int(want))
	}
	p.same(what)
	return e
}

func (p *pair) begin(d api.Digest, size int) (int, api.Errno) {
	p.t.Helper()
	p.name(d)
	n, e := p.s.Begin(d, size)
	want, wantE := p.m.begin(d, size)
	what := fmt.Sprintf("Begin(%x.., %d)", d[:3], size)
	if n != want {
		p.t.Fatalf("%s: %d, %d; want %d, %d", what, n, int(e), want, int(wantE))
	}
	return n, p.told(what, e, wantE)
}

func (p *pair) write(d api.Digest, at int, data string) api.Errno {
	p.t.Helper()
	p.name(d)
	return p.told(fmt.Sprintf("Write(%x.., %d, %d bytes)", d[:3], at, len(data)), p.s.Write(d, at, data), p.m.write(d, at, data))
}

func (p *pair) commit(d api.Digest) api.Errno {
	p.t.Helper()
	p.name(d)
	return p.told(fmt.Sprintf("Commit(%x..)", d[:3]), p.s.Commit(d), p.m.commit(d))
}

func (p *pair) drop(d api.Digest) api.Errno {
	p.t.Helper()
	p.name(d)
	return p.told(fmt.Sprintf("Drop(%x..)", d[:3]), p.s.Drop(d), p.m.drop(d))
}

func (p *pair) delete(d api.Digest) api.Errno {
	p.t.Helper()
	p.name(d)
	return p.told(fmt.Sprintf("Delete(%x..)", d[:3]), p.s.Delete(d), p.m.delete(d))
}

func (p *pair) hold(d api.Digest) api.Errno {
	p.t.Helper()
	p.name(d)
	return p.told(fmt.Sprintf("Hold(%x..)", d[:3]), p.s.Hold(d), p.m.hold(d))
}

func (p *pair) free(d api.Digest) api.Errno {
	p.t.Helper()
	p.name(d)
	return p.told(fmt.Sprintf("Free(%x..)", d[:3]), p.s.Free(d), p.m.free(d))
}

// store lets a text be a blob.
func (p *pair) store(s string) api.Digest {
	p.t.Helper()
	d := sum(s)
	if _, e := p.begin(d, len(s)); e != api.OK {
		p.t.Fatalf("Begin: %d", int(e))
	}
	wants(p.t, "Write", p.write(d, 0, s), api.OK)
	wants(p.t, "Commit", p.commit(d), api.OK)
	return d
}

// part lets the first bytes of a text be there of a blob of so many, that is being written.
func (p *pair) part(d api.Digest, size int, s string) {
	p.t.Helper()
	if _, e := p.begin(d, size); e != api.OK {
		p.t.Fatalf("Begin: %d", int(e))
	}
	wants(p.t, "Write", p.write(d, 0, s), api.OK)
}

// same fails, if the disks, the files, or what is told of the blobs are unlike.
func (p *pair) same(what string) {
	p.t.Helper()
	p.sameDisks(what)
	if l, want := p.s.List(), digestsIn(p.m.texts, p.known, blobFile); !slices.Equal(l, want) {
		p.t.Fatalf("%s: List: %x; want %x", what, l, want)
	}
	if l, want := p.s.Parts(), digestsIn(p.m.texts, p.known, partFile); !slices.Equal(l, want) {
		p.t.Fatalf("%s: Parts: %x; want %x", what, l, want)
	}
	for _, d := range p.known {
		p.sameBlob(what, d)
	}
}

// sameBlob fails, if a blob's bytes, size, or holds are other ones.
func (p *pair) sameBlob(what string, d api.Digest) {
	p.t.Helper()
	s, e := p.s.Read(d)
	if want, wantE := p.m.read(d); s != want || e != wantE {
		p.t.Fatalf("%s: Read(%x..): %d bytes, %d; want %d, %d", what, d[:3], len(s), int(e), len(want), int(wantE))
	}
	n, e := p.s.Size(d)
	if want, wantE := p.m.size(d); n != want || e != wantE {
		p.t.Fatalf("%s: Size(%x..): %d, %d; want %d, %d", what, d[:3], n, int(e), want, int(wantE))
	}
	if n := p.s.Held(d); n != p.m.held[d] {
		p.t.Fatalf("%s: Held(%x..): %d; want %d", what, d[:3], n, p.m.held[d])
	}
}

// sameDisks fails, if the disks, or the files, are unlike.
func (p *pair) sameDisks(what string) {
	p.t.Helper()
	if p.disk.Up() != p.twin.Up() || p.disk.Loose() != p.twin.Loose() {
		p.t.Fatalf("%s: up %t, loose %d; want %t, %d", what, p.disk.Up(), p.disk.Loose(), p.twin.Up(), p.twin.Loose())
	}
	if !slices.Equal(p.files.List(), p.m.files.List()) {
		p.t.Fatalf("%s: files %q; want %q", what, p.files.List(), p.m.files.List())
	}
	if p.m.down() {
		return
	}
	for n := range p.disk.Size() {
		a, _ := p.disk.Read(n)
		b, _ := p.twin.Read(n)
		if a != b {
			p.t.Fatalf("%s: the sector %d is another one", what, n)
		}
	}
	if now := contents(p.t, p.files); !maps.Equal(now, p.m.texts) {
		p.t.Fatalf("%s: the files have other bytes", what)
	}
}

// wants fails, if another error is told.
func wants(t *testing.T, what string, e, want api.Errno) {
	t.Helper()
	if e != want {
		t.Errorf("%s: %d; want %d", what, int(e), int(want))
	}
}

// P18.1 to P18.5: of a store that is nil, or that Open did not make, for every call, whatever it is handed.
func TestNone(t *testing.T) {
	for _, s := range []*Store{nil, {}, new(Store)} {
		for _, d := range []api.Digest{{}, ones(255), sum("abc")} {
			for _, n := range append([]int{0, 3}, far...) {
				if have, e := s.Begin(d, n); have != 0 || e != api.ErrNil {
					t.Errorf("Begin of none: %d, %d", have, int(e))
				}
				wants(t, "Write of none", s.Write(d, n, "abc"), api.ErrNil)
			}
			wants(t, "Commit of none", s.Commit(d), api.ErrNil)
			wants(t, "Drop of none", s.Drop(d), api.ErrNil)
			wants(t, "Delete of none", s.Delete(d), api.ErrNil)
			wants(t, "Hold of none", s.Hold(d), api.ErrNil)
			wants(t, "Free of none", s.Free(d), api.ErrNil)
			if text, e := s.Read(d); text != "" || e != api.ErrNil {
				t.Errorf("Read of none: %q, %d", text, int(e))
			}
			if n, e := s.Size(d); n != 0 || e != api.ErrNil {
				t.Errorf("Size of none: %d, %d", n, int(e))
			}
			if n := s.Held(d); n != 0 {
				t.Errorf("Held of none: %d", n)
			}
		}
		if l, parts := s.List(), s.Parts(); len(l) != 0 || len(parts) != 0 {
			t.Errorf("List, Parts of none: %x, %x", l, parts)
		}
	}
}

// P18.1: Open of files that are none, and of such whose disk is down, or was since they were opened.
func TestOpenRefuses(t *testing.T) {
	for _, f := range []*extfs.FS{nil, {}} {
		if s, e := Open(f); s != nil || e != api.ErrNil {
			t.Errorf("Open of none: %v, %d", s, int(e))
		}
	}
	d := blank(t, 150)
	f := filesOn(t, d)
	d.Crash(nil)
	if s, e := Open(f); s != nil || e != api.ErrDown {
		t.Errorf("Open of files that are down: %v, %d", s, int(e))
	}
	d.Start()
	if s, e := Open(f); s != nil || e != api.ErrDown {
		t.Errorf("Open of files whose disk was down: %v, %d", s, int(e))
	}
	storeOf(t, filesOn(t, d))
}

// P18.1: Open of files with other names, with blobs, with such as are not whole: nothing is being written, or held, and nothing changes.
func TestOpen(t *testing.T) {
	d := blank(t, 200)
	f := filesOn(t, d)
	whole, begun, full := sum("whole"), sum("begun"), sum("full")
	f.Do([]api.FileOp{
		put("other", "bytes"), put("b-", ""), put(blobFile(whole), "whole"),
		put(partFile(begun), "beg"), put(partFile(full), "full"), create(partFile(api.Digest{})),
	})
	was, used, loose := contents(t, f), f.Used(), d.Loose()
	for range 2 {
		s := storeOf(t, f)
		if l := s.List(); !slices.Equal(l, []api.Digest{whole}) {
			t.Errorf("List: %x", l)
		}
		parts := []api.Digest{{}, begun, full}
		slices.SortFunc(parts, rising)
		if l := s.Parts(); !slices.Equal(l, parts) {
			t.Errorf("Parts: %x; want %x", l, parts)
		}
		for _, x := range append(parts, whole, sum("none")) {
			wants(t, "Write behind Open", s.Write(x, 0, ""), api.ErrNone)
			wants(t, "Write behind Open", s.Write(x, 3, "un"), api.ErrNone)
			wants(t, "Commit behind Open", s.Commit(x), api.ErrNone)
			wants(t, "Free behind Open", s.Free(x), api.ErrNone)
			if n := s.Held(x); n != 0 {
				t.Errorf("Held behind Open: %d", n)
			}
		}
		if text, e := s.Read(whole); text != "whole" || e != api.OK {
			t.Errorf("Read behind Open: %q, %d", text, int(e))
		}
		if now := contents(t, f); !maps.Equal(now, was) || f.Used() != used || d.Loose() != loose {
			t.Errorf("Open changed the files: %d, %d, %d", len(now), f.Used(), d.Loose())
		}
	}
}

// P18.1: the names of the files: 64 digits, small ones, behind b- and p-.
func TestNames(t *testing.T) {
	zeros := strings.Repeat("0", 64)
	for _, x := range []struct {
		d      api.Digest
		digits string
	}{
		{api.Digest{}, zeros},
		{first(0xAB), "ab" + zeros[2:]},
		{first(0x0A), "0a" + zeros[2:]},
		{last(0xF0), zeros[2:] + "f0"},
		{ones(0xFF), strings.Repeat("f", 64)},
		{sum("abc"), "ba7816bf8f01cfea414140de5dae2223b00361a396177a9cb410ff61f20015ad"},
		{sum(""), "e3b0c44298fc1c149afbf4c8996fb92427ae41e4649b934ca495991b7852b855"},
	} {
		if name := Name(x.d); name != "b-"+x.digits {
			t.Errorf("Name(%x) = %q", x.d, name)
		}
		if name := Part(x.d); name != "p-"+x.digits {
			t.Errorf("Part(%x) = %q", x.d, name)
		}
	}
	for b := range 256 {
		for at := range 32 {
			d := sum("mixed")
			d[at] = byte(b)
			if Name(d) != blobFile(d) || Part(d) != partFile(d) {
				t.Errorf("of %x: %q, %q", d, Name(d), Part(d))
			}
		}
	}
}

// The chapter's examples.
func TestExamples(t *testing.T) {
	p := both(t, 200)
	abc := sum("abc")
	if n, e := p.begin(abc, 3); n != 0 || e != api.OK {
		t.Errorf("Begin: %d, %d", n, int(e))
	}
	wants(t, "Write at 0", p.write(abc, 0, "ab"), api.OK)
	wants(t, "Write at 1", p.write(abc, 1, "c"), api.ErrArg)
	if n, e := p.begin(abc, 3); n != 2 || e != api.OK {
		t.Errorf("Begin again: %d, %d", n, int(e))
	}
	wants(t, "Write at 2", p.write(abc, 2, "c"), api.OK)
	wants(t, "Commit", p.commit(abc), api.OK)
	if n, e := p.begin(abc, 3); n != 0 || e != api.ErrHave {
		t.Errorf("Begin of what is there: %d, %d", n, int(e))
	}
	if s, e := p.s.Read(abc); s != "abc" || e != api.OK {
		t.Errorf("Read: %q, %d", s, int(e))
	}
	other := sum("another one")
	p.part(other, 3, "abc")
	wants(t, "Commit of another digest", p.commit(other), api.ErrSum)
	if l, parts := p.s.List(), p.s.Parts(); !slices.Equal(l, []api.Digest{abc}) || len(parts) != 0 {
		t.Errorf("List, Parts: %x, %x", l, parts)
	}
}

// sizes are such as a blob may have, and such as none may.
var sizes = append([]int{0, 1, 2, 3, 4, 5, 511, 512, 513, most - 1, most}, far...)

// P18.2: Begin of a blob of which nothing is there, of which there are bytes (that are being written, or not), and of one that is there, with each size.
func TestBegin(t *testing.T) {
	for _, size := range sizes {
		for _, have := range []int{-1, 0, 1, 3, 513, most} {
			for _, writing := range []bool{false, true} {
				p := both(t, 600)
				d := sum("a blob")
				if have >= 0 {
					p.part(d, have, text(have, 1))
				}
				if !writing {
					p.another()
				}
				n, e := p.begin(d, size)
				isBegun(t, fmt.Sprintf("Begin(%d) of %d bytes", size, have), max(have, 0), size, n, e)
				if _, ok := contents(t, p.files)[partFile(d)]; ok != (e == api.OK || have >= 0) {
					t.Errorf("Begin(%d) of %d bytes: there is a file: %t", size, have, ok)
				}
			}
		}
		p := both(t, 200)
		n, e := p.begin(p.store("abc"), size)
		want := api.ErrHave
		if size < 0 || size > most {
			want = api.ErrArg
		}
		if n != 0 || e != want {
			t.Errorf("Begin(%d) of a blob that is there: %d, %d; want %d", size, n, int(e), int(want))
		}
	}
}

// isBegun fails, if Begin of a blob of which so many bytes are there told otherwise.
func isBegun(t *testing.T, what string, have, size, n int, e api.Errno) {
	t.Helper()
	want, wantE := have, api.OK
	if have > size {
		want = 0
	}
	if size < 0 || size > most {
		want, wantE = 0, api.ErrArg
	}
	if n != want || e != wantE {
		t.Errorf("%s: %d, %d; want %d, %d", what, n, int(e), want, int(wantE))
	}
}

// P18.2: behind a Begin that is refused what was being written goes on, with the size that it had.
func TestBeginRefused(t *testing.T) {
	p := both(t, 200)
	d := sum("hello")
	p.part(d, 5, "hel")
	for _, size := range []int{-1, most + 1, math.MinInt, math.MaxInt} {
		if n, e := p.begin(d, size); n != 0 || e != api.ErrArg {
			t.Errorf("Begin(%d): %d, %d", size, n, int(e))
		}
		wants(t, "Write of too many", p.write(d, 3, "lo!"), api.ErrLong)
	}
	wants(t, "Write of the rest", p.write(d, 3, "lo"), api.OK)
	wants(t, "Commit", p.commit(d), api.OK)
	other := sum("other")
	p.begin(other, -1)
	wants(t, "Write of what was refused", p.write(other, 0, ""), api.ErrNone)
	wants(t, "Commit of what was refused", p.commit(other), api.ErrNone)
}

// P18.2: Begin anew gives another size: a greater one, a smaller one, one that is less than is there.
func TestBeginAnew(t *testing.T) {
	p := both(t, 200)
	d := sum("hello")
	p.part(d, 3, "hel")
	wants(t, "Write behind the end", p.write(d, 3, "l"), api.ErrLong)
	if n, e := p.begin(d, 6); n != 3 || e != api.OK {
		t.Errorf("Begin with more: %d, %d", n, int(e))
	}
	wants(t, "Write", p.write(d, 3, "lo"), api.OK)
	if n, e := p.begin(d, 5); n != 5 || e != api.OK {
		t.Errorf("Begin with just as many: %d, %d", n, int(e))
	}
	wants(t, "Write behind the end", p.write(d, 5, "!"), api.ErrLong)
	if n, e := p.begin(d, 4); n != 0 || e != api.OK {
		t.Errorf("Begin with fewer: %d, %d", n, int(e))
	}
	wants(t, "Write where it was", p.write(d, 5, ""), api.ErrArg)
	wants(t, "Write of more than that", p.write(d, 0, "hello"), api.ErrLong)
	if n, e := p.begin(d, 5); n != 0 || e != api.OK {
		t.Errorf("Begin again: %d, %d", n, int(e))
	}
	wants(t, "Write", p.write(d, 0, "hello"), api.OK)
	wants(t, "Commit", p.commit(d), api.OK)
}

// P18.2, R5: which error comes first, with the disk down, and ErrDown also where nothing is to be done.
func TestBeginDown(t *testing.T) {
	for _, started := range []bool{false, true} {
		p := both(t, 200)
		whole, begun, none := p.store("whole"), sum("begun"), sum("none")
		p.part(begun, 5, "beg")
		p.crash(nil)
		if started {
			p.start()
		}
		for _, x := range []struct {
			what string
			d    api.Digest
			size int
			want api.Errno
		}{
			{"a blob that is there", whole, 5, api.ErrHave},
			{"a blob that is there, too small", whole, -1, api.ErrArg},
			{"a blob that is there, too great", whole, most + 1, api.ErrArg},
			{"none", none, 4, api.ErrDown},
			{"none, too small", none, -1, api.ErrArg},
			{"what is begun, with nothing to be done", begun, 5, api.ErrDown},
			{"what is begun, with just as many", begun, 3, api.ErrDown},
			{"what is begun, with fewer", begun, 2, api.ErrDown},
			{"what is begun, with none", begun, 0, api.ErrDown},
			{"what is begun, too great", begun, most + 1, api.ErrArg},
		} {
			if n, e := p.begin(x.d, x.size); n != 0 || e != x.want {
				t.Errorf("Begin of %s: %d, %d; want %d", x.what, n, int(e), int(x.want))
			}
		}
		wants(t, "Write of what is begun no more", p.write(none, 0, "none"), api.ErrNone)
	}
}

// P18.2, P18.3: a Begin that the disk stops leaves what was being written as it was, with its size.
func TestBeginStopped(t *testing.T) {
	p := both(t, 200)
	d := sum("hello")
	p.part(d, 5, "hel")
	p.crash(nil)
	if _, e := p.begin(d, 2); e != api.ErrDown {
		t.Errorf("Begin: %d", int(e))
	}
	wants(t, "Write at 0", p.write(d, 0, ""), api.ErrArg)
	wants(t, "Write of too many", p.write(d, 3, "lo!"), api.ErrLong)
	wants(t, "Write", p.write(d, 3, "lo"), api.ErrDown)
}

// P18.2: more files than there may be: nothing is begun.
func TestBeginMany(t *testing.T) {
	p := both(t, 200)
	begun := sum("begun")
	p.part(begun, 5, "be")
	for i := range 127 {
		if _, e := p.begin(sum(fmt.Sprint(i)), 4); e != api.OK {
			t.Fatalf("Begin of %d: %d", i, int(e))
		}
	}
	d := sum("hello")
	if n, e := p.begin(d, 5); n != 0 || e != api.ErrMany {
		t.Errorf("Begin of one more: %d, %d", n, int(e))
	}
	wants(t, "Write", p.write(d, 0, "hello"), api.ErrNone)
	wants(t, "Commit", p.commit(d), api.ErrNone)
	if n, e := p.begin(begun, 5); n != 2 || e != api.OK {
		t.Errorf("Begin of what is there: %d, %d", n, int(e))
	}
	wants(t, "Drop", p.drop(sum("7")), api.OK)
	if n, e := p.begin(d, 5); n != 0 || e != api.OK {
		t.Errorf("Begin behind that: %d, %d", n, int(e))
	}
}

// P18.3: Write of a blob that is not being written: of none, of one that is there, of a beginning, of one that was dropped.
func TestWriteOfNone(t *testing.T) {
	p := both(t, 200)
	whole, begun, gone := p.store("whole"), sum("begun"), sum("gone")
	p.part(begun, 5, "beg")
	p.part(gone, 4, "go")
	p.drop(gone)
	p.another()
	for _, d := range []api.Digest{whole, begun, gone, sum("none"), {}} {
		for _, at := range append([]int{0, 2, 3, 5}, far...) {
			for _, data := range []string{"", "un", text(most+1, 2)} {
				wants(t, "Write", p.write(d, at, data), api.ErrNone)
			}
		}
		wants(t, "Commit", p.commit(d), api.ErrNone)
	}
}

// P18.3: Write at each place about where the bytes end, of nothing, of fewer than are lacking, of just these, of more.
func TestWrite(t *testing.T) {
	for _, size := range []int{0, 1, 5, 513, most} {
		for _, have := range []int{0, 1, 3, size - 1, size} {
			if have < 0 || have > size {
				continue
			}
			p := both(t, 600)
			d := sum("a blob")
			p.part(d, size, text(have, 3))
			for _, at := range append([]int{have - 1, have + 1, size + 1, have + 512}, far...) {
				for _, count := range []int{0, 1, size - have, size - have + 1, most + 1} {
					wants(t, fmt.Sprintf("Write at %d of %d, %d bytes", at, have, count), p.write(d, at, text(count, 4)), api.ErrArg)
				}
			}
			for _, count := range []int{size - have + 1, size - have + 2, most + 1, most + 512} {
				wants(t, fmt.Sprintf("Write of %d bytes, with %d of %d", count, have, size), p.write(d, have, text(count, 4)), api.ErrLong)
			}
			wants(t, "Write of nothing", p.write(d, have, ""), api.OK)
			wants(t, "Write of what is lacking", p.write(d, have, text(size-have, 5)), api.OK)
			wants(t, "Write of nothing at the end", p.write(d, size, ""), api.OK)
			wants(t, "Write of one more", p.write(d, size, "x"), api.ErrLong)
			if size > have {
				wants(t, "Write of the same again", p.write(d, have, text(size-have, 5)), api.ErrArg)
			}
		}
	}
}

// P18.3: in whichever parts a blob comes, also byte by byte and with several in turns, it is whole at the end.
func TestWriteInParts(t *testing.T) {
	whole := text(700, 6)
	for _, step := range []int{1, 2, 63, 64, 65, 511, 512, 513, 699, 700} {
		p := both(t, 160)
		twice, back := whole[:350]+whole[:350], whole[350:]+whole[:350]
		for _, s := range []string{whole, twice, back} {
			p.begin(sum(s), len(s))
		}
		for at := 0; at < len(whole); at += step {
			for _, s := range []string{whole, twice, back} {
				wants(t, "Write", p.write(sum(s), at, s[at:min(at+step, len(s))]), api.OK)
			}
		}
		for _, s := range []string{whole, twice, back} {
			wants(t, "Commit", p.commit(sum(s)), api.OK)
			if is, e := p.s.Read(sum(s)); is != s || e != api.OK {
				t.Errorf("Read: %d bytes, %d", len(is), int(e))
			}
		}
	}
}

// P18.3: Commit with too few bytes, with just enough that are other ones, with the right ones, of each size; what is refused is gone.
func TestCommit(t *testing.T) {
	for _, size := range []int{0, 1, 55, 64, 511, 512, 513, 5000, most} {
		whole := text(size, 7)
		p := both(t, 600)
		d, beside := sum(whole), sum("beside")
		p.part(beside, 6, "besi")
		if size > 0 {
			other := []byte(whole)
			other[size-1] ^= 1
			for _, s := range []string{"", whole[:size/2], whole[:size-1], whole[1:], string(other)} {
				p.part(d, size, s)
				wants(t, fmt.Sprintf("Commit of %d with %d bytes", size, len(s)), p.commit(d), api.ErrSum)
				isGone(t, p, d)
			}
		}
		p.part(d, size, whole)
		wants(t, "Commit", p.commit(d), api.OK)
		if s, e := p.s.Read(d); s != whole || e != api.OK {
			t.Errorf("Read of %d: %d bytes, %d", size, len(s), int(e))
		}
		wants(t, "Commit again", p.commit(d), api.ErrNone)
		wants(t, "Write behind it", p.write(d, size, ""), api.ErrNone)
		wants(t, "Drop behind it", p.drop(d), api.ErrNone)
		wants(t, "Write beside it", p.write(beside, 4, "de"), api.OK)
		wants(t, "Commit beside it", p.commit(beside), api.OK)
	}
}

// isGone fails, if there is anything of a blob.
func isGone(t *testing.T, p *pair, d api.Digest) {
	t.Helper()
	if isAt(p.s.List(), d) >= 0 || isAt(p.s.Parts(), d) >= 0 {
		t.Errorf("%x is there", d[:3])
	}
	wants(t, "Write of what is gone", p.write(d, 0, ""), api.ErrNone)
	wants(t, "Commit of what is gone", p.commit(d), api.ErrNone)
	wants(t, "Drop of what is gone", p.drop(d), api.ErrNone)
}

// P18.3: Commit of bytes that are the digest's, but not as many as the size says: of fewer, and of the greatest size.
func TestCommitOfAnotherSize(t *testing.T) {
	for _, size := range []int{6, 512, most} {
		p := both(t, 600)
		d := sum("hello")
		p.part(d, size, "hello")
		wants(t, "Commit", p.commit(d), api.ErrSum)
		isGone(t, p, d)
	}
	p := both(t, 200)
	p.begin(sum(""), 1)
	wants(t, "Commit of nothing, of size 1", p.commit(sum("")), api.ErrSum)
	p.begin(sum("x"), 0)
	wants(t, "Commit of something, of size 0", p.commit(sum("x")), api.ErrSum)
	p.begin(api.Digest{}, 0)
	wants(t, "Commit of the zero digest", p.commit(api.Digest{}), api.ErrSum)
	p.begin(sum(""), 0)
	wants(t, "Commit of nothing", p.commit(sum("")), api.OK)
	if s, e := p.s.Read(sum("")); s != "" || e != api.OK {
		t.Errorf("Read of nothing: %q, %d", s, int(e))
	}
	if l := p.s.List(); !slices.Equal(l, []api.Digest{sum("")}) {
		t.Errorf("List: %x", l)
	}
}

// P18.3: a Commit goes by each of the digest's bytes.
func TestCommitOfAlmostTheDigest(t *testing.T) {
	p := both(t, 200)
	for at := range 32 {
		d := sum("hello")
		d[at] ^= 1 << (at % 8)
		p.part(d, 5, "hello")
		wants(t, "Commit", p.commit(d), api.ErrSum)
		p.known = nil
	}
}

// P18.3: Drop of none, of a blob that is there, of a beginning that is not being written, of one that is; and Write and Commit behind it.
func TestDrop(t *testing.T) {
	p := both(t, 200)
	whole, begun, none := p.store("whole"), sum("begun"), sum("none")
	p.part(begun, 5, "beg")
	wants(t, "Drop of none", p.drop(none), api.ErrNone)
	wants(t, "Drop of a blob that is there", p.drop(whole), api.ErrNone)
	wants(t, "Drop of what is being written", p.drop(begun), api.OK)
	isGone(t, p, begun)
	p.part(begun, 5, "begu")
	p.another()
	wants(t, "Drop of a beginning", p.drop(begun), api.OK)
	isGone(t, p, begun)
	p.begin(begun, 5)
	wants(t, "Drop of what has no bytes", p.drop(begun), api.OK)
	isGone(t, p, begun)
	if n, e := p.begin(begun, 5); n != 0 || e != api.OK {
		t.Errorf("Begin behind it: %d, %d", n, int(e))
	}
	wants(t, "Write behind it", p.write(begun, 0, "begun"), api.OK)
	wants(t, "Commit behind it", p.commit(begun), api.OK)
}

// P18.4: Read, Size and Delete of a blob that is there, of one that is not whole, of none.
func TestReadSizeDelete(t *testing.T) {
	p := both(t, 600)
	for _, s := range []string{"", "x", "hello", text(512, 8), text(513, 9), text(most, 10)} {
		d := p.store(s)
		if is, e := p.s.Read(d); is != s || e != api.OK {
			t.Errorf("Read: %d bytes, %d; want %d", len(is), int(e), len(s))
		}
		if n, e := p.s.Size(d); n != len(s) || e != api.OK {
			t.Errorf("Size: %d, %d; want %d", n, int(e), len(s))
		}
		used := p.files.Used()
		wants(t, "Delete", p.delete(d), api.OK)
		if left := p.files.Used(); used-left != (len(s)+511)/512 {
			t.Errorf("Delete of %d bytes: %d blocks, then %d", len(s), used, left)
		}
		wants(t, "Delete again", p.delete(d), api.ErrNone)
	}
	begun := sum("begun")
	p.part(begun, 5, "begun")
	for _, d := range []api.Digest{begun, sum("none"), {}} {
		if s, e := p.s.Read(d); s != "" || e != api.ErrNone {
			t.Errorf("Read of none: %q, %d", s, int(e))
		}
		if n, e := p.s.Size(d); n != 0 || e != api.ErrNone {
			t.Errorf("Size of none: %d, %d", n, int(e))
		}
		wants(t, "Delete of none", p.delete(d), api.ErrNone)
	}
	wants(t, "Commit behind that", p.commit(begun), api.OK)
}

// P18.2 to P18.4: of a digest of which both files are there, each call goes by its own one.
func TestBothFiles(t *testing.T) {
	f := filesOn(t, blank(t, 200))
	d := sum("hello")
	was := map[string]string{blobFile(d): "hello", partFile(d): "hel"}
	f.Do([]api.FileOp{put(blobFile(d), "hello"), put(partFile(d), "hel")})
	s := storeOf(t, f)
	if n, e := s.Begin(d, 2); n != 0 || e != api.ErrHave || !maps.Equal(contents(t, f), was) {
		t.Errorf("Begin: %d, %d, %q", n, int(e), contents(t, f))
	}
	if text, e := s.Read(d); text != "hello" || e != api.OK {
		t.Errorf("Read: %q, %d", text, int(e))
	}
	if l, parts := s.List(), s.Parts(); !slices.Equal(l, []api.Digest{d}) || !slices.Equal(parts, l) {
		t.Errorf("List, Parts: %x, %x", l, parts)
	}
	wants(t, "Delete", s.Delete(d), api.OK)
	if now := contents(t, f); !maps.Equal(now, map[string]string{partFile(d): "hel"}) {
		t.Errorf("behind Delete: %q", now)
	}
	f.Do([]api.FileOp{put(blobFile(d), "hello")})
	wants(t, "Drop", s.Drop(d), api.OK)
	if now := contents(t, f); !maps.Equal(now, map[string]string{blobFile(d): "hello"}) {
		t.Errorf("behind Drop: %q", now)
	}
}

// P18.4: a blob that was deleted may be written again.
func TestDeleteAndAgain(t *testing.T) {
	p := both(t, 200)
	for range 3 {
		d := p.store("hello")
		wants(t, "Delete", p.delete(d), api.OK)
		wants(t, "Write", p.write(d, 0, "h"), api.ErrNone)
		isGone(t, p, d)
	}
}

// P18.4: List and Parts of none, of several, by whichever order they came, rising.
func TestListAndParts(t *testing.T) {
	p := both(t, 400)
	if l, parts := p.s.List(), p.s.Parts(); len(l) != 0 || len(parts) != 0 {
		t.Errorf("of none: %x, %x", l, parts)
	}
	var blobs, begun []api.Digest
	for i := range 25 {
		blobs = append(blobs, p.store(fmt.Sprint("blob ", i)))
		d := sum(fmt.Sprint("part ", i))
		p.part(d, 6, "part")
		begun = append(begun, d)
	}
	slices.SortFunc(blobs, rising)
	slices.SortFunc(begun, rising)
	if l := p.s.List(); !slices.Equal(l, blobs) {
		t.Errorf("List: %x; want %x", l, blobs)
	}
	if l := p.s.Parts(); !slices.Equal(l, begun) {
		t.Errorf("Parts: %x; want %x", l, begun)
	}
}

// P18.4: digests rise by their first byte that differs, whichever it is, from 0 to 255.
func TestListRises(t *testing.T) {
	d := blank(t, 200)
	f := filesOn(t, d)
	var want []api.Digest
	for _, b := range []byte{255, 1, 16, 9, 10, 128, 127, 159, 160, 15} {
		for _, x := range []api.Digest{first(b), last(b), ones(b)} {
			f.Do([]api.FileOp{create(blobFile(x)), create(partFile(x))})
			want = append(want, x)
		}
	}
	slices.SortFunc(want, rising)
	s := storeOf(t, f)
	if l := s.List(); !slices.Equal(l, want) {
		t.Errorf("List: %x; want %x", l, want)
	}
	if l := s.Parts(); !slices.Equal(l, want) {
		t.Errorf("Parts: %x; want %x", l, want)
	}
}

// P18.4: files whose names are almost those of blobs are none.
func TestListOfOtherNames(t *testing.T) {
	d := blank(t, 200)
	f := filesOn(t, d)
	abc, zero := sum("abc"), strings.Repeat("0", 64)
	digits := fmt.Sprintf("%x", abc[:])
	var names []string
	for _, ahead := range []string{"b-", "p-"} {
		names = append(names,
			ahead, ahead+digits[:63], ahead+digits[1:], ahead+digits+"0", ahead+digits+"\x00", ahead+" "+digits,
			ahead+strings.ToUpper(digits), ahead+digits[:63]+"D", ahead+"A"+digits[1:], ahead+digits[:63]+"g",
			ahead+digits[:63]+"-", ahead+digits[:62]+"\u00e9", ahead+zero[:63]+":", ahead+"/"+zero[1:], ahead+"sha256:"+digits,
			ahead+"sha256:"+digits[7:], ahead+ahead+digits[2:], " "+ahead+digits, strings.ToUpper(ahead)+digits,
			ahead[:1]+digits, ahead[:1]+"_"+digits, ahead[1:]+digits, ahead+strings.Repeat("a", 94))
	}
	names = append(names, digits, "s-"+digits, "a-"+digits, "c-"+digits, "o-"+digits, "q-"+digits, "images", "usage")
	for _, name := range names {
		if e := f.Do([]api.FileOp{put(name, "x")}); e != api.OK {
			t.Fatalf("a file %q: %d", name, int(e))
		}
	}
	s := storeOf(t, f)
	if l, parts := s.List(), s.Parts(); len(l) != 0 || len(parts) != 0 {
		t.Errorf("List, Parts: %x, %x", l, parts)
	}
	was := contents(t, f)
	if _, e := s.Begin(abc, 3); e != api.OK || len(s.List()) != 0 || !slices.Equal(s.Parts(), []api.Digest{abc}) {
		t.Errorf("Begin beside them: %d, %x, %x", int(e), s.List(), s.Parts())
	}
	wants(t, "Write beside them", s.Write(abc, 0, "abc"), api.OK)
	wants(t, "Commit beside them", s.Commit(abc), api.OK)
	if l, parts := s.List(), s.Parts(); !slices.Equal(l, []api.Digest{abc}) || len(parts) != 0 {
		t.Errorf("List, Parts: %x, %x", l, parts)
	}
	wants(t, "Delete beside them", s.Delete(abc), api.OK)
	if now := contents(t, f); !maps.Equal(now, was) {
		t.Errorf("the other files are other ones: %d; they were %d", len(now), len(was))
	}
}

// P18.4, R4: lists that are told are the caller's own.
func TestListsAreOwn(t *testing.T) {
	p := both(t, 200)
	a, b := p.store("a"), p.store("b")
	p.part(sum("c"), 3, "c")
	p.part(sum("d"), 3, "d")
	for _, list := range []func() []api.Digest{p.s.List, p.s.Parts} {
		was := slices.Clone(list())
		l := list()
		clear(l)
		_ = append(l, a, b)
		if now := list(); !slices.Equal(now, was) || len(was) != 2 {
			t.Errorf("told again: %x; it was %x", now, was)
		}
	}
}

// P18.5: Hold of a blob, twice, Free as often and once more, and Delete meanwhile and then; each blob is held by itself.
func TestHold(t *testing.T) {
	p := both(t, 200)
	a, b := p.store("a"), p.store("b")
	for n := range 5 {
		wants(t, "Hold", p.hold(a), api.OK)
		if held := p.s.Held(a); held != n+1 {
			t.Errorf("Held: %d; want %d", held, n+1)
		}
		wants(t, "Delete of what is held", p.delete(a), api.ErrBusy)
	}
	wants(t, "Hold of the other one", p.hold(b), api.OK)
	for n := range 5 {
		wants(t, "Delete of what is held", p.delete(a), api.ErrBusy)
		wants(t, "Free", p.free(a), api.OK)
		if held := p.s.Held(a); held != 4-n {
			t.Errorf("Held: %d; want %d", held, 4-n)
		}
	}
	wants(t, "Free once more", p.free(a), api.ErrNone)
	if s, e := p.s.Read(a); s != "a" || e != api.OK {
		t.Errorf("Read behind the last Free: %q, %d", s, int(e))
	}
	wants(t, "Delete behind the last Free", p.delete(a), api.OK)
	wants(t, "Delete of the other one", p.delete(b), api.ErrBusy)
	wants(t, "Hold of what is gone", p.hold(a), api.ErrNone)
	wants(t, "Free of what is gone", p.free(a), api.ErrNone)
	a = p.store("a")
	if held := p.s.Held(a); held != 0 {
		t.Errorf("Held of what is written again: %d", held)
	}
	wants(t, "Hold of what is written again", p.hold(a), api.OK)
}

// P18.5: Hold, Free and Held of none, and of what is not whole.
func TestHoldOfNone(t *testing.T) {
	p := both(t, 200)
	begun := sum("begun")
	p.part(begun, 5, "begun")
	for _, d := range []api.Digest{begun, sum("none"), {}} {
		wants(t, "Hold", p.hold(d), api.ErrNone)
		wants(t, "Free", p.free(d), api.ErrNone)
		if n := p.s.Held(d); n != 0 {
			t.Errorf("Held: %d", n)
		}
	}
	wants(t, "Commit", p.commit(begun), api.OK)
	if n := p.s.Held(begun); n != 0 {
		t.Errorf("Held: %d", n)
	}
}

// P18.5: how often a blob is held is the store's own: it is not on the disk, and each store counts for itself.
func TestHeldIsNotKept(t *testing.T) {
	p := both(t, 200)
	d := p.store("hello")
	p.hold(d)
	other := storeOf(t, p.files)
	if n := other.Held(d); n != 0 {
		t.Errorf("Held of another store: %d", n)
	}
	wants(t, "Free of another store", other.Free(d), api.ErrNone)
	if n := p.s.Held(d); n != 1 {
		t.Errorf("Held: %d", n)
	}
	p.crash(nil)
	p.start()
	p.open()
	if n := p.s.Held(d); n != 0 {
		t.Errorf("Held behind a crash: %d", n)
	}
	wants(t, "Delete behind a crash", p.delete(d), api.OK)
}

// P18.3, P18.4, P18.5, R5: each call with the disk down, and behind its start, of files that were opened ahead of it.
func TestDown(t *testing.T) {
	for _, started := range []bool{false, true} {
		p := both(t, 200)
		whole, held, full, begun, none := p.store("whole"), p.store("held"), sum("full"), sum("begun"), sum("none")
		p.hold(held)
		p.part(full, 4, "full")
		p.part(begun, 5, "beg")
		p.begin(none, 0)
		p.drop(none)
		p.crash(nil)
		if started {
			p.start()
		}
		for range 2 {
			wants(t, "Write of none", p.write(none, 0, ""), api.ErrNone)
			wants(t, "Write at another place", p.write(begun, 2, "un"), api.ErrArg)
			wants(t, "Write of too many", p.write(begun, 3, "un!"), api.ErrLong)
			wants(t, "Write", p.write(begun, 3, "un"), api.ErrDown)
			wants(t, "Write of nothing", p.write(begun, 3, ""), api.ErrDown)
			wants(t, "Commit of none", p.commit(none), api.ErrNone)
			wants(t, "Commit of what is whole", p.commit(full), api.ErrDown)
			wants(t, "Commit of what is not", p.commit(begun), api.ErrDown)
			wants(t, "Delete of what is held", p.delete(held), api.ErrBusy)
			wants(t, "Delete", p.delete(whole), api.ErrDown)
			wants(t, "Delete of none", p.delete(none), api.ErrDown)
			wants(t, "Hold", p.hold(whole), api.OK)
			wants(t, "Hold of none", p.hold(none), api.ErrNone)
			wants(t, "Free", p.free(whole), api.OK)
			wants(t, "Free once more", p.free(whole), api.ErrNone)
			wants(t, "Drop of none", p.drop(none), api.ErrDown)
		}
		for _, d := range []api.Digest{whole, none} {
			if s, e := p.s.Read(d); s != "" || e != api.ErrDown {
				t.Errorf("Read: %q, %d", s, int(e))
			}
		}
		if n, e := p.s.Size(whole); n != 5 || e != api.OK {
			t.Errorf("Size: %d, %d", n, int(e))
		}
	}
}

// P18.3: what the disk stops is not done, and what was being written still is.
func TestStoppedGoesOn(t *testing.T) {
	p := both(t, 200)
	d := sum("hello")
	p.part(d, 5, "hel")
	p.crash(nil)
	wants(t, "Drop", p.drop(d), api.ErrDown)
	wants(t, "Commit", p.commit(d), api.ErrDown)
	wants(t, "Write", p.write(d, 3, "lo"), api.ErrDown)
	wants(t, "Write at another place", p.write(d, 0, "lo"), api.ErrArg)
}

// P18.3: a disk that is full: nothing is written, and it goes on when there is room.
func TestFull(t *testing.T) {
	p := both(t, 140)
	whole, d := text(3000, 11), text(3000, 12)
	used := p.store(whole[:500])
	p.part(sum(d), 3000, d[:2048])
	if free := p.files.Free(); free != 5 {
		t.Fatalf("%d blocks are free; want 5", free)
	}
	for range 3 {
		wants(t, "Write", p.write(sum(d), 2048, d[2048:]), api.ErrSpace)
		wants(t, "Write at another place", p.write(sum(d), 3000, ""), api.ErrArg)
	}
	wants(t, "Write of nothing", p.write(sum(d), 2048, ""), api.OK)
	if n, e := p.begin(sum(d), 3000); n != 2048 || e != api.OK {
		t.Errorf("Begin: %d, %d", n, int(e))
	}
	wants(t, "Delete", p.delete(used), api.OK)
	wants(t, "Write with room", p.write(sum(d), 2048, d[2048:]), api.OK)
	wants(t, "Commit", p.commit(sum(d)), api.OK)
	p.begin(sum(whole), 3000)
	wants(t, "Write without room", p.write(sum(whole), 0, whole), api.ErrSpace)
	wants(t, "Commit without it", p.commit(sum(whole)), api.ErrSum)
}

// calls are calls by chance on a pair.
type calls struct {
	*pair
	r     numbers
	texts []string
}

// pick is a text, and a digest, which is at times another one's.
func (c *calls) pick() (string, api.Digest) {
	s := c.texts[c.r.below(len(c.texts))]
	switch c.r.below(12) {
	case 0:
		return s, sum(c.texts[c.r.below(len(c.texts))])
	case 1:
		return s, first(byte(c.r.below(2)))
	}
	return s, sum(s)
}

// anySize is mostly that of the text.
func (c *calls) anySize(s string) int {
	switch c.r.below(10) {
	case 0:
		return len(s) + 1
	case 1:
		return len(s) - 1
	case 2:
		return c.r.below(len(s) + 600)
	case 3:
		return sizes[c.r.below(len(sizes))]
	}
	return len(s)
}

// writeNext writes mostly what is next of a text.
func (c *calls) writeNext(s string, d api.Digest) {
	have := len(c.m.texts[partFile(d)])
	at, data := have, ""
	if have < len(s) {
		data = s[have:]
	}
	switch c.r.below(12) {
	case 0:
		at += c.r.below(3) - 1
	case 1:
		at = c.r.below(len(s) + 2)
	case 2:
		at = far[c.r.below(len(far))]
	case 3:
		data += "x"
	case 4, 5, 6:
		data = data[:c.r.below(len(data)+1)]
	case 7:
		data = text(c.r.below(900), c.r.below(9))
	}
	c.write(d, at, data)
}

// one is one call.
func (c *calls) one() {
	s, d := c.pick()
	switch c.r.below(20) {
	case 0, 1, 2, 3:
		c.begin(d, c.anySize(s))
	case 4, 5, 6, 7, 8, 9:
		c.writeNext(s, d)
	case 10, 11, 12:
		c.commit(d)
	case 13:
		c.drop(d)
	case 14, 15:
		c.delete(d)
	case 16:
		c.hold(d)
	case 17:
		c.free(d)
	case 18:
		if !c.m.down() && c.r.below(4) == 0 {
			c.another()
		}
	case 19:
		c.fails()
	}
}

// fails lets the disks crash, now or soon, unless they did.
func (c *calls) fails() {
	if c.m.down() {
		return
	}
	switch c.r.below(8) {
	case 0:
		c.crash(c.r.keep())
	case 1, 2:
		c.fail(c.r.below(12), c.r.keep())
	}
}

// P18.1 to P18.5: many calls by chance, on disks with much and little room, that crash, by the document's words.
func TestByChance(t *testing.T) {
	for seed, size := range []int{134, 140, 150, 180, 260, 500} {
		c := &calls{pair: both(t, size), r: numbers{uint32(seed)}}
		for i, n := range []int{0, 1, 5, 64, 511, 512, 513, 1100, 2600} {
			c.texts = append(c.texts, text(n, 100+i))
		}
		if size == 500 {
			c.texts = append(c.texts, text(most, 200))
		}
		for range 2500 {
			c.one()
			if c.m.down() && c.r.below(4) == 0 {
				if c.r.below(2) == 0 {
					c.start()
					c.one()
				}
				c.start()
				c.open()
			}
		}
	}
}

// step is one thing that is done with a store.
type step struct {
	what string
	do   func(s *Store) api.Errno
	want api.Errno
}

func stepBegin(d api.Digest, size int) step {
	return step{"Begin", func(s *Store) api.Errno { _, e := s.Begin(d, size); return e }, api.OK}
}

func stepWrite(d api.Digest, at int, data string) step {
	return step{"Write", func(s *Store) api.Errno { return s.Write(d, at, data) }, api.OK}
}

func stepCommit(d api.Digest, want api.Errno) step {
	return step{"Commit", func(s *Store) api.Errno { return s.Commit(d) }, want}
}

func stepDrop(d api.Digest) step {
	return step{"Drop", func(s *Store) api.Errno { return s.Drop(d) }, api.OK}
}

func stepDelete(d api.Digest, want api.Errno) step {
	return step{"Delete", func(s *Store) api.Errno { return s.Delete(d) }, want}
}

func stepHold(d api.Digest) step {
	return step{"Hold", func(s *Store) api.Errno { return s.Hold(d) }, api.OK}
}

// What the steps write.
var (
	short, long, wrong = "hello", text(1300, 13), sum("what never comes")
	wholeTexts         = map[api.Digest]string{sum(short): short, sum(long): long, sum(""): "", wrong: text(600, 14)}
)

// steps are such as change files in all ways.
func steps() []step {
	a, b, none := sum(short), sum(long), sum("")
	return []step{
		stepBegin(a, 5), stepWrite(a, 0, "hel"), stepBegin(b, 1300), stepWrite(b, 0, long[:700]),
		stepWrite(a, 3, "lo"), stepCommit(a, api.OK), stepHold(a), stepWrite(b, 700, ""),
		stepBegin(b, 400), stepWrite(b, 0, long[:400]), stepBegin(b, 1300), stepWrite(b, 400, long[400:1299]),
		stepDelete(a, api.ErrBusy), stepBegin(wrong, 600), stepWrite(wrong, 0, wholeTexts[wrong]), stepCommit(wrong, api.ErrSum),
		stepWrite(b, 1299, long[1299:]), stepCommit(b, api.OK), stepBegin(wrong, 600), stepWrite(wrong, 0, "what"),
		stepBegin(none, 0), stepCommit(none, api.OK), stepDrop(wrong), stepDelete(b, api.OK), stepBegin(b, 1300),
		stepWrite(b, 0, long[:512]), stepDelete(none, api.OK),
	}
}

// states are what the files have ahead of each step, and behind the last one.
func states(t *testing.T) []map[string]string {
	t.Helper()
	f := filesOn(t, blank(t, 160))
	s := storeOf(t, f)
	l := []map[string]string{contents(t, f)}
	for i, x := range steps() {
		wants(t, fmt.Sprintf("%s, step %d", x.what, i), x.do(s), x.want)
		l = append(l, contents(t, f))
	}
	return l
}

// keeps are lists of which loose writes a disk keeps.
func keeps() [][]bool {
	l := [][]bool{nil, slices.Repeat([]bool{true}, 60), slices.Repeat([]bool{true, false}, 30), slices.Repeat([]bool{false, true}, 30)}
	for at := range 6 {
		alone, without := make([]bool, 60), slices.Repeat([]bool{true}, 60)
		alone[at], without[at] = true, false
		l = append(l, alone, without)
	}
	r := numbers{77}
	for range 4 {
		l = append(l, r.keep())
	}
	return l
}

// P18.6: at each change at which the disk fails, whatever it keeps: a blob's file has its digest, what is not whole goes on where it was, and what is held is not deleted.
func TestFailures(t *testing.T) {
	l, empty := states(t), blank(t, 160)
	for i, keep := range keeps() {
		t.Run(fmt.Sprint(i), func(t *testing.T) {
			t.Parallel()
			changes := 0
			for failsAt(t, empty, l, changes, keep) {
				changes++
			}
			if changes < 50 {
				t.Errorf("the steps are done with %d changes", changes)
			}
		})
	}
}

// failsAt lets the steps be done on a disk that fails at such a change; false: they are done ahead of it.
func failsAt(t *testing.T, empty *sectors.Disk, l []map[string]string, change int, keep []bool) bool {
	t.Helper()
	d := copyOf(t, empty)
	s := storeOf(t, filesOn(t, d))
	d.Fail(change, keep)
	at := stopped(t, s)
	if at == len(steps()) {
		return false
	}
	d.Start()
	goesOn(t, d, l[at], l[at+1])
	if t.Failed() {
		t.Fatalf("at the change %d, keeping %v, in %s, step %d", change, keep, steps()[at].what, at)
	}
	return true
}

// stopped is which step the disk stopped: all ahead of it are as they should be.
func stopped(t *testing.T, s *Store) int {
	t.Helper()
	for i, x := range steps() {
		e := x.do(s)
		if e == api.ErrDown {
			return i
		}
		wants(t, fmt.Sprintf("%s, step %d", x.what, i), e, x.want)
	}
	return len(steps())
}

// goesOn fails, if a disk has not just one of two states, or if what is there does not go on.
func goesOn(t *testing.T, d *sectors.Disk, ahead, behind map[string]string) {
	t.Helper()
	f := filesOn(t, d)
	now := contents(t, f)
	if !maps.Equal(now, ahead) && !maps.Equal(now, behind) {
		t.Errorf("the files are neither those ahead of it nor those behind it")
	}
	if again := contents(t, filesOn(t, d)); !maps.Equal(again, now) {
		t.Errorf("opened twice the files are other ones")
	}
	s := storeOf(t, f)
	isWhole(t, f)
	for _, x := range s.List() {
		if n := s.Held(x); n != 0 {
			t.Errorf("Held behind a crash: %d", n)
		}
		if text, e := s.Read(x); text != wholeTexts[x] || e != api.OK {
			t.Errorf("Read behind a crash: %d bytes, %d", len(text), int(e))
		}
	}
	for _, x := range s.Parts() {
		partGoesOn(t, s, x, now[partFile(x)])
	}
	isWhole(t, f)
}

// partGoesOn fails, if what is not whole does not go on where it was.
func partGoesOn(t *testing.T, s *Store, d api.Digest, have string) {
	t.Helper()
	whole := wholeTexts[d]
	wants(t, "Write ahead of Begin", s.Write(d, len(have), ""), api.ErrNone)
	n, e := s.Begin(d, len(whole))
	if n != len(have) || e != api.OK {
		t.Errorf("Begin behind a crash: %d, %d; want %d", n, int(e), len(have))
	}
	wants(t, "Write behind a crash", s.Write(d, n, whole[n:]), api.OK)
	if d == wrong {
		wants(t, "Commit of another digest", s.Commit(d), api.ErrSum)
		return
	}
	wants(t, "Commit behind a crash", s.Commit(d), api.OK)
	if text, e := s.Read(d); text != whole || e != api.OK {
		t.Errorf("Read: %d bytes, %d", len(text), int(e))
	}
}

// isWhole fails, if a blob's file has another digest.
func isWhole(t *testing.T, f *extfs.FS) {
	t.Helper()
	for name, s := range contents(t, f) {
		if strings.HasPrefix(name, "b-") && name != blobFile(sum(s)) {
			t.Errorf("%s has the digest %x", name, sum(s))
		}
	}
}

// P18.6: what is not whole goes on in another store of the same files, and behind a crash, at each place.
func TestGoesOnElsewhere(t *testing.T) {
	for _, size := range []int{1, 5, 513} {
		whole := text(size, 15)
		d := sum(whole)
		for have := range size + 1 {
			if size > 5 && have%57 != 0 && have < size-1 {
				continue
			}
			for _, crashes := range []bool{false, true} {
				p := both(t, 160)
				p.part(d, size, whole[:have])
				if crashes {
					p.crash(nil)
					p.start()
					p.open()
				} else {
					p.another()
				}
				wants(t, "Write ahead of Begin", p.write(d, have, whole[have:]), api.ErrNone)
				if n, e := p.begin(d, size); n != have || e != api.OK {
					t.Errorf("Begin: %d, %d; want %d", n, int(e), have)
				}
				wants(t, "Write", p.write(d, have, whole[have:]), api.OK)
				wants(t, "Commit", p.commit(d), api.OK)
			}
		}
	}
}

// turns is a store that goes on with two blobs by turns with others.
type turns struct {
	*Store
	at map[api.Digest]int // where it would go on, if it was alone
}

// goOn does one of a store's calls, mostly such as would be right if it was alone.
func (s *turns) goOn(t *testing.T, r *numbers, d api.Digest, whole string) {
	t.Helper()
	switch r.below(8) {
	case 0:
		if n, e := s.Begin(d, r.below(len(whole)+3)); e == api.OK {
			s.at[d] = n
		}
	case 1:
		if n, e := s.Begin(d, len(whole)); e == api.OK {
			s.at[d] = n
		}
	case 2, 3, 4:
		at := min(s.at[d], len(whole))
		data := whole[at:][:r.below(len(whole)-at+1)]
		if s.Write(d, at, data) == api.OK {
			s.at[d] = at + len(data)
		}
	case 5:
		s.Commit(d)
	case 6:
		if r.below(4) == 0 {
			s.Drop(d)
		}
	case 7:
		holdAndDelete(t, s.Store, d)
	}
}

// P18.6: however two stores of the same files go on by turns: a blob's file has its digest, and no store deletes what it holds.
func TestTwoStores(t *testing.T) {
	for seed := range 60 {
		f := filesOn(t, blank(t, 180))
		r := &numbers{uint32(seed) + 500}
		stores := []*turns{{storeOf(t, f), map[api.Digest]int{}}, {storeOf(t, f), map[api.Digest]int{}}}
		whole := []string{"hello", text(600, 16)}
		for range 400 {
			n := r.below(2)
			d, s := sum(whole[n]), whole[n]
			if r.below(6) == 0 {
				s = strings.Repeat("x", len(s))
			}
			stores[r.below(2)].goOn(t, r, d, s)
			if isWhole(t, f); t.Failed() {
				t.Fatalf("by the numbers of %d", seed)
			}
		}
	}
}

// holdAndDelete fails, if a blob is deleted while it is held; then it is.
func holdAndDelete(t *testing.T, s *Store, d api.Digest) {
	t.Helper()
	if s.Hold(d) != api.OK {
		return
	}
	was, e := s.Read(d)
	wants(t, "Delete of what is held", s.Delete(d), api.ErrBusy)
	if now, is := s.Read(d); now != was || is != e {
		t.Errorf("Read of what is held: %d bytes, %d", len(now), int(is))
	}
	wants(t, "Free", s.Free(d), api.OK)
	wants(t, "Delete", s.Delete(d), api.OK)
}

// R4: what is handed in is not kept: digests that change later are others.
func TestWhatIsHandedIn(t *testing.T) {
	p := both(t, 200)
	d := sum("hello")
	was := d
	p.part(d, 5, "hello")
	d[0] ^= 1
	wants(t, "Commit of the other one", p.commit(d), api.ErrNone)
	wants(t, "Commit", p.commit(was), api.OK)
	wants(t, "Hold", p.hold(was), api.OK)
	if n := p.s.Held(d); n != 0 {
		t.Errorf("Held of the other one: %d", n)
	}
}
