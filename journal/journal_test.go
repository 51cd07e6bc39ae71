package journal

import (
	"encoding/binary"
	"hash/crc32"
	"math"
	"slices"
	"strings"
	"testing"

	"lighter/api"
	"lighter/sectors"
)

// far are numbers that no journal has as a sector.
var far = []int{math.MinInt, math.MinInt + 1, -1 << 32, -65, -64, -2, -1, 4096, 1 << 32, math.MaxInt - 65, math.MaxInt - 64, math.MaxInt}

// zero is a sector of bytes 0.
var zero = strings.Repeat("\x00", 512)

// all is a sector of one letter.
func all(letter string) string { return strings.Repeat(letter, 512) }

// write is one of a sector of one letter.
func write(n int, letter string) api.Write { return api.Write{Sector: n, Data: all(letter)} }

// list is writes of mixed data to so many sectors, from one on.
func list(first, count, seed int) []api.Write {
	var l []api.Write
	for i := range count {
		l = append(l, api.Write{Sector: first + i, Data: mixed(1000*seed + i)})
	}
	return l
}

// mixed is a sector that is unlike for each seed, and has all kinds of bytes.
func mixed(seed int) string {
	b := make([]byte, 512)
	r := numbers{uint32(seed)*2654435761 + 12345}
	for i := range b {
		b[i] = byte(r.below(256))
	}
	return string(b)
}

// numbers are mixed ones.
type numbers struct{ last uint32 }

func (r *numbers) below(n int) int {
	r.last = r.last*1664525 + 1013904223
	return int(r.last>>8) % n
}

func (r *numbers) keep() []bool {
	l := make([]bool, r.below(90))
	for i := range l {
		l[i] = r.below(2) == 1
	}
	return l
}

// some are so many writes of sectors below a size, no one twice, each of other data.
func (r *numbers) some(count, size int) []api.Write {
	var l []api.Write
	for len(l) < min(count, size) {
		n := r.below(size)
		if !slices.ContainsFunc(l, func(w api.Write) bool { return w.Sector == n }) {
			l = append(l, api.Write{Sector: n, Data: mixed(r.below(1 << 20))})
		}
	}
	return l
}

// padded is bytes and bytes 0, as a sector.
func padded(b []byte) string { return string(append(b, make([]byte, 512-len(b))...)) }

// markBytes are those of a mark, by the words of the document.
func markBytes(number uint64, place int) string {
	b := binary.LittleEndian.AppendUint64([]byte("LJ01"), number)
	b = append(b, byte(place))
	return padded(binary.LittleEndian.AppendUint32(b, crc32.ChecksumIEEE(b)))
}

// headBytes are those of a head, by the words of the document.
func headBytes(number uint64, l []api.Write) string {
	b := binary.LittleEndian.AppendUint64([]byte("LT01"), number)
	b = append(b, byte(len(l)))
	var data []byte
	for _, w := range l {
		b = binary.LittleEndian.AppendUint32(b, uint32(w.Sector))
		b = append(b, w.Data[:4]...)
		data = append(data, w.Data...)
	}
	sum := crc32.Update(crc32.ChecksumIEEE(b), crc32.IEEETable, data)
	return padded(binary.LittleEndian.AppendUint32(b, sum))
}

// dataBytes are those of a data's place.
func dataBytes(data string) string { return "LD01" + data[4:] }

// change is a Write, or a Flush.
type change func(d *sectors.Disk) api.Errno

func flush(d *sectors.Disk) api.Errno { return d.Flush() }

func put(n int, data string) change {
	return func(d *sectors.Disk) api.Errno { return d.Write(n, data) }
}

// home are the writes of the journal's sectors themselves.
func home(l []api.Write) []change {
	var changes []change
	for _, w := range l {
		changes = append(changes, put(65+w.Sector, w.Data))
	}
	return changes
}

// stepwise does changes, one by one, until an error.
func stepwise(d *sectors.Disk, changes []change) api.Errno {
	for _, c := range changes {
		if e := c(d); e != api.OK {
			return e
		}
	}
	return api.OK
}

// words is a journal by the words of the document.
type words struct {
	disk        *sectors.Disk
	starts      int
	number      uint64
	place, used int
	committed   []int
}

func formatByWords(d *sectors.Disk) api.Errno {
	switch {
	case !d.Up():
		return api.ErrDown
	case d.Size() < 73:
		return api.ErrArg
	}
	var changes []change
	for n := 1; n <= 64; n++ {
		changes = append(changes, put(n, zero))
	}
	return stepwise(d, append(changes, put(0, markBytes(1, 0)), flush))
}

func openByWords(d *sectors.Disk) (*words, api.Errno) {
	switch {
	case !d.Up():
		return nil, api.ErrDown
	case d.Size() < 73:
		return nil, api.ErrArg
	}
	s, _ := d.Read(0)
	number, place := binary.LittleEndian.Uint64([]byte(s[4:12])), int(s[12])
	if place > 63 || s != markBytes(number, place) {
		return nil, api.ErrBroke
	}
	m := &words{disk: d, starts: d.Starts(), number: number, place: place}
	for l, ok := m.stands(); ok; l, ok = m.stands() {
		if e := stepwise(d, home(l)); e != api.OK {
			return nil, e
		}
		m.number++
		m.place = (m.place + 1 + len(l)) % 64
	}
	m.number++
	if e := m.checkpoint(); e != api.OK {
		return nil, e
	}
	return m, api.OK
}

// stands takes a head apart, piece by piece.
func (m *words) stands() ([]api.Write, bool) {
	head, _ := m.disk.Read(1 + m.place)
	if head[:4] != "LT01" || binary.LittleEndian.Uint64([]byte(head[4:12])) != m.number || head[12] > 24 {
		return nil, false
	}
	var l []api.Write
	end := 13 + 8*int(head[12])
	sum := crc32.ChecksumIEEE([]byte(head[:end]))
	for at := 13; at < end; at += 8 {
		n := int(binary.LittleEndian.Uint32([]byte(head[at : at+4])))
		twice := slices.ContainsFunc(l, func(w api.Write) bool { return w.Sector == n })
		place, _ := m.disk.Read(1 + (m.place+1+len(l))%64)
		if twice || n >= m.size() || place[:4] != "LD01" {
			return nil, false
		}
		data := head[at+4:at+8] + place[4:]
		sum = crc32.Update(sum, crc32.IEEETable, []byte(data))
		l = append(l, api.Write{Sector: n, Data: data})
	}
	return l, binary.LittleEndian.Uint32([]byte(head[end:end+4])) == sum && strings.Trim(head[end+4:], "\x00") == ""
}

func (m *words) size() int  { return m.disk.Size() - 65 }
func (m *words) room() int  { return 64 - m.used }
func (m *words) over() bool { return !m.disk.Up() || m.disk.Starts() > m.starts }

func (m *words) read(n int) (string, api.Errno) {
	switch {
	case m.over():
		return "", api.ErrDown
	case n < 0 || n >= m.size():
		return "", api.ErrArg
	}
	return m.disk.Read(65 + n)
}

func (m *words) checkpoint() api.Errno {
	if m.over() {
		return api.ErrDown
	}
	e := stepwise(m.disk, []change{flush, put(0, markBytes(m.number, m.place)), flush})
	if e == api.OK {
		m.used, m.committed = 0, nil
	}
	return e
}

func (m *words) refusal(l []api.Write, most int) api.Errno {
	switch {
	case m.over():
		return api.ErrDown
	case len(l) > most:
		return api.ErrMany
	}
	for i, w := range l {
		if w.Sector < 0 || w.Sector >= m.size() || len(w.Data) != 512 {
			return api.ErrArg
		}
		for _, v := range l[:i] {
			if v.Sector == w.Sector {
				return api.ErrArg
			}
		}
	}
	return api.OK
}

func (m *words) commit(l []api.Write) api.Errno {
	if e := m.refusal(l, 24); e != api.OK {
		return e
	}
	if m.room() < len(l)+1 {
		if e := m.checkpoint(); e != api.OK {
			return e
		}
	}
	var changes []change
	for i, w := range l {
		changes = append(changes, put(1+(m.place+1+i)%64, dataBytes(w.Data)))
	}
	changes = append(changes, flush, put(1+m.place, headBytes(m.number, l)), flush)
	if e := stepwise(m.disk, append(changes, home(l)...)); e != api.OK {
		return e
	}
	m.number++
	m.place = (m.place + len(l) + 1) % 64
	m.used += len(l) + 1
	for _, w := range l {
		m.committed = append(m.committed, w.Sector)
	}
	return api.OK
}

func (m *words) direct(l []api.Write) api.Errno {
	if e := m.refusal(l, math.MaxInt); e != api.OK {
		return e
	}
	for _, w := range l {
		if !slices.Contains(m.committed, w.Sector) {
			continue
		}
		if e := m.checkpoint(); e != api.OK {
			return e
		}
		break
	}
	return stepwise(m.disk, home(l))
}

// pair is a disk with a journal, and one on which all is done by the words.
type pair struct {
	t          *testing.T
	disk, twin *sectors.Disk
	j          *Journal
	m          *words
}

// both is two blank disks; no journal is opened yet.
func both(t *testing.T, size int) *pair {
	t.Helper()
	return &pair{t: t, disk: blank(t, size), twin: blank(t, size)}
}

// bothOpened is a pair that is formatted and opened.
func bothOpened(t *testing.T, size int) *pair {
	t.Helper()
	p := both(t, size)
	p.format()
	p.open()
	return p
}

func (p *pair) answer(what string, e, want api.Errno) {
	p.t.Helper()
	tells(p.t, what, e, want)
	p.same(what)
}

func (p *pair) format() {
	p.t.Helper()
	p.answer("Format", Format(p.disk), formatByWords(p.twin))
}

// open leaves the journals that were, if it is refused.
func (p *pair) open() api.Errno {
	p.t.Helper()
	j, e := Open(p.disk)
	m, want := openByWords(p.twin)
	if (j == nil) != (m == nil) {
		p.t.Fatalf("Open: %v, %d; want %v, %d", j, int(e), m, int(want))
	}
	if j != nil {
		p.j, p.m = j, m
	}
	p.answer("Open", e, want)
	return e
}

func (p *pair) commit(l []api.Write) {
	p.t.Helper()
	p.answer("Commit", p.j.Commit(l), p.m.commit(l))
}

func (p *pair) direct(l []api.Write) {
	p.t.Helper()
	p.answer("Direct", p.j.Direct(l), p.m.direct(l))
}

func (p *pair) checkpoint() {
	p.t.Helper()
	p.answer("Checkpoint", p.j.Checkpoint(), p.m.checkpoint())
}

func (p *pair) read(n int) {
	p.t.Helper()
	s, e := p.j.Read(n)
	if want, wantErr := p.m.read(n); s != want || e != wantErr {
		p.t.Errorf("Read(%d) = %.8q, %d; want %.8q, %d", n, s, int(e), want, int(wantErr))
	}
}

func (p *pair) write(n int, data string) {
	p.disk.Write(n, data)
	p.twin.Write(n, data)
}

func (p *pair) fail(n int, keep []bool) {
	p.disk.Fail(n, keep)
	p.twin.Fail(n, keep)
}

func (p *pair) crash(keep []bool) {
	p.disk.Crash(keep)
	p.twin.Crash(keep)
}

func (p *pair) start() {
	p.disk.Start()
	p.twin.Start()
}

// same fails, if the disks, or what the journals tell of themselves, are unlike.
func (p *pair) same(what string) {
	p.t.Helper()
	if p.disk.Up() != p.twin.Up() || p.disk.Loose() != p.twin.Loose() {
		p.t.Fatalf("%s: up %t, loose %d; want %t, %d", what, p.disk.Up(), p.disk.Loose(), p.twin.Up(), p.twin.Loose())
	}
	if p.j != nil && (p.j.Size() != p.m.size() || p.j.Room() != p.m.room()) {
		p.t.Fatalf("%s: size %d, room %d; want %d, %d", what, p.j.Size(), p.j.Room(), p.m.size(), p.m.room())
	}
	for n := range p.disk.Size() {
		s, _ := p.disk.Read(n)
		if want, _ := p.twin.Read(n); s != want {
			p.t.Fatalf("%s: the disk's sector %d has %.40q; want %.40q", what, n, s, want)
		}
	}
}

// tells fails, if an error is another one.
func tells(t *testing.T, what string, e, want api.Errno) {
	t.Helper()
	if e != want {
		t.Errorf("%s: %d; want %d", what, int(e), int(want))
	}
}

// has fails, if a sector has something else.
func has(t *testing.T, j *Journal, n int, want string) {
	t.Helper()
	if s, e := j.Read(n); s != want || e != api.OK {
		t.Errorf("Read(%d) = %.8q (%d bytes), %d; want %.8q", n, s, len(s), int(e), want)
	}
}

// blank is a disk of so many sectors.
func blank(t *testing.T, size int) *sectors.Disk {
	t.Helper()
	d, e := sectors.New(size)
	if e != api.OK {
		t.Fatalf("a disk of %d: %d", size, int(e))
	}
	return d
}

// opened is a disk that is formatted, and its journal.
func opened(t *testing.T, size int) (*sectors.Disk, *Journal) {
	t.Helper()
	d := blank(t, size)
	tells(t, "Format", Format(d), api.OK)
	return d, again(t, d)
}

// again is a disk's journal, opened once more.
func again(t *testing.T, d *sectors.Disk) *Journal {
	t.Helper()
	j, e := Open(d)
	if j == nil || e != api.OK {
		t.Fatalf("Open = %v, %d", j, int(e))
	}
	return j
}

// contents are all sectors of a disk that is up.
func contents(d *sectors.Disk) []string {
	var l []string
	for n := range d.Size() {
		s, _ := d.Read(n)
		l = append(l, s)
	}
	return l
}

// keeps are lists: none, all, all but the first, and each one alone.
func keeps(most int) [][]bool {
	every := slices.Repeat([]bool{true}, most)
	l := [][]bool{nil, every, append([]bool{false}, every[1:]...)}
	for i := range most {
		one := make([]bool, most)
		one[i] = true
		l = append(l, one)
	}
	return l
}

// lay lets a transaction stand at a place, whatever its sectors are.
func lay(d *sectors.Disk, number uint64, place int, l []api.Write) {
	d.Write(1+place, headBytes(number, l))
	for i, w := range l {
		d.Write(1+(place+1+i)%64, dataBytes(w.Data))
	}
}

// laid is a disk with a mark, and one transaction that stands where the mark says.
func laid(t *testing.T, size int, number uint64, place int, l []api.Write) *sectors.Disk {
	t.Helper()
	d := blank(t, size)
	tells(t, "Format", Format(d), api.OK)
	d.Write(0, markBytes(number, place))
	lay(d, number, place, l)
	return d
}

// holds fails, if a journal's sectors have something else than the last one of these writes, and zeros.
func holds(t *testing.T, what string, j *Journal, writes ...[]api.Write) {
	t.Helper()
	want := slices.Repeat([]string{zero}, j.Size())
	for _, l := range writes {
		for _, w := range l {
			want[w.Sector] = w.Data
		}
	}
	for n := range want {
		if s, e := j.Read(n); s != want[n] || e != api.OK {
			t.Errorf("%s: Read(%d) = %.8q, %d; want %.8q", what, n, s, int(e), want[n])
		}
	}
}

// marked fails, if a disk has another mark.
func marked(t *testing.T, what string, d *sectors.Disk, number uint64, place int) {
	t.Helper()
	if s, e := d.Read(0); s != markBytes(number, place) || e != api.OK {
		t.Errorf("%s: the mark is %.20q, %d; want %.20q", what, s, int(e), markBytes(number, place))
	}
}

// The sentence ahead of the promises: of a journal that is none, whatever is asked, and behind it.
func TestNone(t *testing.T) {
	lists := [][]api.Write{nil, {}, {write(0, "a")}, {write(-1, "a")}, {{Sector: 0, Data: "x"}}, {write(1, "a"), write(1, "b")}, make([]api.Write, 25)}
	for what, j := range map[string]*Journal{"nil": nil, "new": new(Journal), "a literal": {}} {
		for range 2 {
			for _, n := range append([]int{0, 1, 7, 8}, far...) {
				if s, e := j.Read(n); s != "" || e != api.ErrNil {
					t.Errorf("%s: Read(%d) = %q, %d", what, n, s, int(e))
				}
			}
			for _, l := range lists {
				tells(t, what+": Commit", j.Commit(l), api.ErrNil)
				tells(t, what+": Direct", j.Direct(l), api.ErrNil)
			}
			tells(t, what+": Checkpoint", j.Checkpoint(), api.ErrNil)
			if j.Size() != 0 || j.Room() != 0 {
				t.Errorf("%s: size %d, room %d", what, j.Size(), j.Room())
			}
		}
	}
}

// P7.1, P7.2: disks that are none, that are down, and that are too small; what is told where two hold; nothing changes.
func TestDisksWrong(t *testing.T) {
	refused := func(what string, d *sectors.Disk, want api.Errno) {
		t.Helper()
		tells(t, what+": Format", Format(d), want)
		if j, e := Open(d); j != nil || e != want {
			t.Errorf("%s: Open = %v, %d; want %d", what, j, int(e), int(want))
		}
	}
	refused("nil", nil, api.ErrNil)
	refused("none", new(sectors.Disk), api.ErrNil)
	for _, size := range []int{8, 9, 64, 65, 66, 71, 72} {
		d := blank(t, size)
		d.Write(0, markBytes(1, 0))
		before := contents(d)
		refused("small", d, api.ErrArg)
		if d.Loose() != 1 || !slices.Equal(contents(d), before) {
			t.Errorf("a disk of %d was changed", size)
		}
		d.Crash(nil)
		refused("small, and down", d, api.ErrDown)
	}
	d, _ := opened(t, 73)
	d.Crash(nil)
	refused("down", d, api.ErrDown)
	d.Start()
	if !slices.Equal(contents(d), append([]string{markBytes(2, 0)}, slices.Repeat([]string{zero}, 72)...)) {
		t.Error("a disk that is down was changed")
	}
}

// P7.1: the mark, and the log's places, are sure; the journal's sectors stay as they were.
func TestFormat(t *testing.T) {
	for _, size := range []int{73, 74, 80, 4096} {
		d := blank(t, size)
		want := []string{"LJ01\x01\x00\x00\x00\x00\x00\x00\x00\x00" + markBytes(1, 0)[13:17] + strings.Repeat("\x00", 495)}
		want = append(want, slices.Repeat([]string{zero}, 64)...)
		for n := range size {
			d.Write(n, mixed(n))
			if n >= 65 {
				want = append(want, mixed(n))
			}
		}
		tells(t, "Format", Format(d), api.OK)
		if d.Loose() != 0 || !slices.Equal(contents(d), want) {
			t.Errorf("a disk of %d: loose %d, or other sectors", size, d.Loose())
		}
		d.Crash(nil)
		d.Start()
		if !slices.Equal(contents(d), want) {
			t.Errorf("a disk of %d: others behind a crash", size)
		}
	}
}

// P7.1: one that had a journal is as a new one, but for the journal's sectors.
func TestFormatAgain(t *testing.T) {
	d, j := opened(t, 80)
	l := list(0, 10, 1)
	for range 20 {
		tells(t, "Commit", j.Commit(l), api.OK)
	}
	tells(t, "Format", Format(d), api.OK)
	marked(t, "behind a Format", d, 1, 0)
	k := again(t, d)
	marked(t, "behind an Open", d, 2, 0)
	holds(t, "behind an Open", k, l)
	if k.Room() != 64 {
		t.Errorf("Room = %d", k.Room())
	}
}

// P7.2: a first sector that is no mark: each byte of it is another one; nothing changes.
func TestOpenNoMark(t *testing.T) {
	d, j := opened(t, 73)
	j.Commit(list(0, 3, 1))
	d.Flush()
	mark := markBytes(7, 5)
	broke := func(what, s string) {
		t.Helper()
		d.Write(0, s)
		d.Flush()
		before := contents(d)
		if k, e := Open(d); k != nil || e != api.ErrBroke {
			t.Errorf("%s: Open = %v, %d", what, k, int(e))
		}
		if d.Loose() != 0 || !slices.Equal(contents(d), before) {
			t.Errorf("%s: the disk was changed", what)
		}
	}
	for i := range mark {
		for _, x := range []byte{1, 0x80, 0xFF, 0x20} {
			b := []byte(mark)
			b[i] ^= x
			broke("a byte is another one", string(b))
		}
	}
	broke("zeros", zero)
	broke("letters", all("x"))
	broke("a head", headBytes(7, nil))
	for _, place := range []int{64, 65, 127, 128, 255} {
		broke("no such place", markBytes(7, place))
	}
	d.Write(0, mark)
	again(t, d)
}

// P7.2: each place a mark may have, and numbers of all sizes; that of the next transaction is one more.
func TestOpenMark(t *testing.T) {
	d := blank(t, 73)
	Format(d)
	for place := range 64 {
		for _, number := range []uint64{0, 1, 2, 255, 256, 1<<32 - 1, 1 << 32, 1<<63 - 1, 1 << 63, math.MaxUint64 - 1} {
			d.Write(0, markBytes(number, place))
			j := again(t, d)
			marked(t, "behind an Open", d, number+1, place)
			if d.Loose() != 0 || j.Room() != 64 || j.Size() != 8 {
				t.Errorf("loose %d, room %d, size %d", d.Loose(), j.Room(), j.Size())
			}
		}
	}
}

// P7.2: a transaction stands at each place, with each count of writes.
func TestOpenStands(t *testing.T) {
	for place := range 64 {
		for count := range 25 {
			l := list(place%9, count, 25*place+count)
			d := laid(t, 100, 9, place, l)
			j := again(t, d)
			holds(t, "one that stands", j, l)
			marked(t, "one that stands", d, 11, (place+1+count)%64)
			if d.Loose() != 0 || j.Room() != 64 {
				t.Errorf("loose %d, room %d", d.Loose(), j.Room())
			}
		}
	}
}

// P7.2: several stand, one behind the other; the later one's data stay; the first that has another number is the end.
func TestOpenSeveral(t *testing.T) {
	for place := range 64 {
		for _, last := range []uint64{0, 8, 9, 10, 12, 11 + 1<<32, 11 + 1<<56, math.MaxUint64} {
			a, b, c := list(0, 5, 1), list(3, 6, 2), list(1, 4, 3)
			d := laid(t, 80, 9, place, a)
			lay(d, 10, (place+6)%64, b)
			lay(d, last, (place+13)%64, c)
			holds(t, "two", again(t, d), a, b)
			marked(t, "two", d, 12, (place+13)%64)
			d = laid(t, 80, 9, place, a)
			lay(d, 10, (place+6)%64, b)
			lay(d, 11, (place+13)%64, c)
			holds(t, "three", again(t, d), a, b, c)
			marked(t, "three", d, 13, (place+18)%64)
		}
	}
}

// P7.2: one that stands elsewhere than just behind the one ahead of it does not count.
func TestOpenElsewhere(t *testing.T) {
	a, b := list(0, 3, 1), list(2, 3, 2)
	for at := range 57 { // the first one is behind them
		d := laid(t, 80, 5, 60, a)
		lay(d, 6, at, b)
		want := [][]api.Write{a}
		if at == 0 {
			want = append(want, b)
		}
		holds(t, "elsewhere", again(t, d), want...)
	}
}

// P7.2: the whole log may be full, of transactions with and without writes, and then it ends.
func TestOpenFull(t *testing.T) {
	for place := range 64 {
		d := laid(t, 80, 1, place, nil)
		for i := range 64 {
			lay(d, uint64(1+i), (place+i)%64, nil)
		}
		again(t, d)
		marked(t, "64 without writes", d, 66, place)
		d = laid(t, 80, 1, place, nil)
		for i := range 4 {
			lay(d, uint64(1+i), (place+16*i)%64, list(0, 15, i))
		}
		holds(t, "four of 15", again(t, d), list(0, 15, 3))
		marked(t, "four of 15", d, 6, place)
	}
}

// P7.2: behind the greatest number of eight bytes comes 0.
func TestOpenGreatest(t *testing.T) {
	d := laid(t, 80, math.MaxUint64, 62, list(0, 1, 1))
	lay(d, 0, 0, list(1, 1, 2))
	holds(t, "two", again(t, d), list(0, 1, 1), list(1, 1, 2))
	marked(t, "two", d, 2, 2)
}

// P7.2: of sectors that the journal has not, and of one sector twice, none stands; that is the end.
func TestOpenSectorsWrong(t *testing.T) {
	for _, size := range []int{73, 80, 4096} {
		last := size - 66
		for _, n := range []int{last + 1, last + 2, size, 65535, 1 << 24, 1<<31 - 1, 1 << 31, 1<<32 - 65, 1<<32 - 1} {
			for _, l := range [][]api.Write{{write(n, "a")}, {write(0, "a"), write(n, "b")}, {write(n, "a"), write(0, "b")}} {
				d := laid(t, size, 5, 7, l)
				lay(d, 6, (8+len(l))%64, list(1, 1, 1))
				holds(t, "no such sector", again(t, d))
				marked(t, "no such sector", d, 6, 7)
			}
		}
		l := []api.Write{write(last, "a"), write(0, "b")}
		holds(t, "the last one", again(t, laid(t, size, 5, 7, l)), l)
	}
	for _, l := range [][]api.Write{
		{write(1, "a"), write(1, "b")},
		{write(1, "a"), write(1, "a")},
		{write(3, "a"), write(2, "b"), write(1, "c"), write(3, "d")},
		append(list(0, 23, 1), write(22, "a")),
	} {
		holds(t, "twice", again(t, laid(t, 100, 5, 7, l)))
	}
}

// P7.2: a head of more than 24 writes is none, even if all else is right.
func TestOpenMany(t *testing.T) {
	for count := 24; count <= 40; count++ {
		l := list(0, count, 1)
		want := [][]api.Write{l}
		if count > 24 {
			want = nil
		}
		holds(t, "many", again(t, laid(t, 120, 5, 50, l)), want...)
	}
	for _, count := range []byte{61, 62, 63, 64, 128, 255} {
		b := []byte(headBytes(5, nil))
		b[12] = count
		binary.LittleEndian.PutUint32(b[13:], crc32.ChecksumIEEE(b[:13]))
		d := laid(t, 120, 5, 50, nil)
		d.Write(51, string(b))
		holds(t, "a great count", again(t, d))
		marked(t, "a great count", d, 6, 50)
	}
}

// P7.2, P7.6: a head, or a data's place, of which a byte is another one.
func TestOpenChanged(t *testing.T) {
	for _, place := range []int{0, 20, 62, 63} {
		l := list(0, 2, place)
		for i := range 3 {
			d := laid(t, 73, 5, place, l)
			at := 1 + (place+i)%64
			was, _ := d.Read(at)
			for n := range was {
				b := []byte(was)
				b[n] ^= byte(1 << (n % 8))
				d.Write(0, markBytes(5, place))
				d.Write(at, string(b))
				d.Flush()
				holds(t, "changed", again(t, d))
				marked(t, "changed", d, 6, place)
				if t.Failed() {
					t.Fatalf("place %d, sector %d, byte %d", place, i, n)
				}
			}
		}
	}
}

// P7.2: the writes go to their sectors in order, ahead of the checkpoint, and the log stays as it is.
func TestOpenInOrder(t *testing.T) {
	d := laid(t, 80, 5, 60, list(0, 3, 1))
	lay(d, 6, 0, list(2, 3, 2))
	before := contents(d)
	again(t, d)
	if after := contents(d); !slices.Equal(after[1:65], before[1:65]) {
		t.Error("the log was changed")
	}
	d.Crash(nil)
	d.Start()
	holds(t, "behind a crash", again(t, d), list(0, 3, 1), list(2, 3, 2))
}

// P7.2: what was left of a transaction that was not told OK stands never again: not even when one stands ahead of it that is as long.
func TestOpenLeft(t *testing.T) {
	for count := range 25 {
		d, j := opened(t, 100)
		d.Fail(count+2, nil) // at the Flush behind its head, which is not kept
		l := list(0, count, 1)
		tells(t, "Commit", j.Commit(l), api.ErrDown)
		d.Start()
		j = again(t, d)
		holds(t, "nothing", j)
		// As if the head came to be there later.
		d.Write(1, headBytes(2, l))
		d.Flush()
		holds(t, "still nothing", again(t, d))
	}
	d, j := opened(t, 100)
	j.Commit(list(0, 2, 1))
	d.Fail(7, []bool{true}) // the first write to its sector
	tells(t, "Commit", j.Commit(list(5, 4, 2)), api.ErrDown)
	d.Start()
	j = again(t, d)
	holds(t, "both", j, list(0, 2, 1), list(5, 4, 2))
	marked(t, "both", d, 5, 8)
}

// P7.3: sizes, the first and the last sector, and those one beyond them.
func TestSizeRead(t *testing.T) {
	for _, size := range []int{73, 74, 140, 500, 4096} {
		d, j := opened(t, size)
		if j.Size() != size-65 || j.Room() != 64 {
			t.Errorf("a disk of %d: size %d, room %d", size, j.Size(), j.Room())
		}
		for n := range size {
			d.Write(n, mixed(n))
		}
		for n := range j.Size() {
			has(t, j, n, mixed(65+n))
		}
		for _, n := range append([]int{j.Size(), j.Size() + 1, size}, far...) {
			if s, e := j.Read(n); s != "" || e != api.ErrArg {
				t.Errorf("Read(%d) of %d = %.8q, %d", n, j.Size(), s, int(e))
			}
		}
	}
}

// P7.3: what a sector has, be it committed, direct, written over, loose or sure.
func TestRead(t *testing.T) {
	d, j := opened(t, 80)
	has(t, j, 3, zero)
	j.Commit([]api.Write{write(3, "a")})
	has(t, j, 3, all("a"))
	j.Direct([]api.Write{write(4, "b")})
	has(t, j, 4, all("b"))
	j.Commit([]api.Write{write(4, "c"), write(3, "d")})
	has(t, j, 3, all("d"))
	has(t, j, 4, all("c"))
	j.Direct([]api.Write{write(3, "e")})
	has(t, j, 3, all("e"))
	j.Checkpoint()
	has(t, j, 3, all("e"))
	has(t, j, 4, all("c"))
	d.Flush()
	has(t, j, 3, all("e"))
	has(t, j, 2, zero)
	has(t, j, 5, zero)
}

// P7.3 to P7.5: a journal whose disk is down, or was, is over, for good, whatever it is asked; the disk stays as it is.
func TestOver(t *testing.T) {
	lists := [][]api.Write{nil, {write(0, "a")}, {write(14, "a")}, {{Sector: 0, Data: "x"}}, {write(1, "a"), write(1, "b")}, make([]api.Write, 25)}
	d, j := opened(t, 80)
	j.Commit(list(0, 3, 1))
	over := func(what string) {
		t.Helper()
		for _, n := range append([]int{0, 14, 15}, far...) {
			if s, e := j.Read(n); s != "" || e != api.ErrDown {
				t.Errorf("%s: Read(%d) = %.8q, %d", what, n, s, int(e))
			}
		}
		for _, l := range lists {
			tells(t, what+": Commit", j.Commit(l), api.ErrDown)
			tells(t, what+": Direct", j.Direct(l), api.ErrDown)
		}
		tells(t, what+": Checkpoint", j.Checkpoint(), api.ErrDown)
		if j.Size() != 15 || j.Room() != 60 {
			t.Errorf("%s: size %d, room %d", what, j.Size(), j.Room())
		}
	}
	d.Crash(nil)
	over("down")
	d.Start()
	before := contents(d)
	over("up again")
	k := again(t, d)
	behind := contents(d)
	over("opened again")
	holds(t, "the new one", k, list(0, 3, 1))
	if slices.Equal(before, behind) || !slices.Equal(contents(d), behind) || d.Loose() != 0 {
		t.Error("one that is over changed the disk")
	}
	tells(t, "Commit of the new one", k.Commit(list(0, 3, 2)), api.OK)
	d.Crash(nil)
	over("down once more")
	d.Start()
	over("up once more")
}

// P7.3: a journal of a disk that was down ahead of its Open is not over.
func TestNotOver(t *testing.T) {
	d, _ := opened(t, 80)
	for i := range 4 {
		d.Crash(nil)
		d.Start()
		j := again(t, d)
		tells(t, "Commit", j.Commit([]api.Write{write(i, "a")}), api.OK)
		has(t, j, i, all("a"))
		tells(t, "Checkpoint", j.Checkpoint(), api.OK)
	}
}

// P7.4: a transaction's bytes, written out, and where they stand.
func TestCommitBytes(t *testing.T) {
	d, j := opened(t, 80)
	odd := "LT01\x02" + mixed(1)[5:]
	tells(t, "Commit", j.Commit([]api.Write{write(14, "a"), {Sector: 0, Data: odd}}), api.OK)
	head := "LT01\x02\x00\x00\x00\x00\x00\x00\x00\x02\x0e\x00\x00\x00aaaa\x00\x00\x00\x00LT01"
	sum := binary.LittleEndian.AppendUint32(nil, crc32.ChecksumIEEE([]byte(head+all("a")+odd)))
	s := contents(d)
	if s[1] != padded([]byte(head+string(sum))) || s[2] != "LD01"+all("a")[4:] || s[3] != "LD01"+odd[4:] {
		t.Errorf("%.40q, %.8q, %.8q", s[1], s[2], s[3])
	}
	if s[79] != all("a") || s[65] != odd || d.Loose() != 2 {
		t.Errorf("%.8q, %.8q, loose %d", s[79], s[65], d.Loose())
	}
	marked(t, "as it was", d, 2, 0)
}

// P7.4: none, one, and 24 writes; 25 are too many, whatever they are.
func TestCommitCounts(t *testing.T) {
	for count := range 25 {
		p := bothOpened(t, 100)
		p.commit(list(3, count, count))
		p.commit(list(5, count, count+100))
		if p.j.Room() != 64-2*(count+1) {
			t.Errorf("Room = %d behind two of %d", p.j.Room(), count)
		}
		holds(t, "both", p.j, list(3, count, count), list(5, count, count+100))
	}
	d, j := opened(t, 100)
	before := contents(d)
	for count := 25; count <= 35; count++ {
		tells(t, "many", j.Commit(list(0, count, 1)), api.ErrMany)
	}
	for _, count := range []int{25, 36, 1000, 1 << 17} {
		tells(t, "many that are none", j.Commit(make([]api.Write, count)), api.ErrMany)
	}
	if j.Room() != 64 || d.Loose() != 0 || !slices.Equal(contents(d), before) {
		t.Error("too many changed something")
	}
}

// P7.4, P7.5: sectors that there are not, data of other sizes, and two of one; at each place of the list; nothing changes.
func TestWritesWrong(t *testing.T) {
	d, j := opened(t, 80)
	j.Commit(list(0, 3, 1))
	j.Direct(list(5, 2, 2))
	before, loose, room := contents(d), d.Loose(), j.Room()
	var wrong []api.Write
	for _, n := range append([]int{15, 16, 79, 80}, far...) {
		wrong = append(wrong, write(n, "a"))
	}
	for _, size := range []int{0, 1, 4, 508, 510, 511, 513, 514, 1024, 1 << 16} {
		wrong = append(wrong, api.Write{Sector: 14, Data: strings.Repeat("a", size)})
	}
	wrong = append(wrong, write(0, "a"), write(11, "a")) // which the list has
	for _, w := range wrong {
		for at := range 13 {
			l := slices.Insert(list(0, 12, 3), at, w)
			tells(t, "Commit", j.Commit(l), api.ErrArg)
			tells(t, "Direct", j.Direct(l), api.ErrArg)
		}
	}
	if d.Loose() != loose || j.Room() != room || !slices.Equal(contents(d), before) {
		t.Error("what was refused changed something")
	}
	tells(t, "the first and the last", j.Commit([]api.Write{write(14, "a"), write(0, "b")}), api.OK)
	tells(t, "the first and the last", j.Direct([]api.Write{write(14, "a"), write(0, "b")}), api.OK)
}

// P7.4: which error is told where two hold.
func TestErrorsOrder(t *testing.T) {
	d, j := opened(t, 80)
	wrong := []api.Write{write(99, "a"), write(99, "a"), {Sector: 0, Data: "x"}}
	many := slices.Repeat(wrong, 9)
	tells(t, "many that are wrong", j.Commit(many), api.ErrMany)
	tells(t, "Direct of many that are wrong", j.Direct(many), api.ErrArg)
	tells(t, "wrong", j.Commit(wrong), api.ErrArg)
	d.Crash(nil)
	tells(t, "down, many", j.Commit(many), api.ErrDown)
	tells(t, "down, wrong", j.Commit(wrong), api.ErrDown)
	tells(t, "down, Direct", j.Direct(many), api.ErrDown)
	none := new(Journal)
	tells(t, "none", none.Commit(many), api.ErrNil)
	tells(t, "none, Direct", none.Direct(many), api.ErrNil)
}

// P7.4: whatever is used, and however many come: a checkpoint first, if Room is too little, and only then.
func TestCommitRoom(t *testing.T) {
	for used := range 65 {
		for count := range 25 {
			d, j := opened(t, 90)
			for range used {
				tells(t, "Commit", j.Commit(nil), api.OK)
			}
			if j.Room() != 64-used {
				t.Fatalf("Room = %d behind %d", j.Room(), used)
			}
			tells(t, "Commit", j.Commit(list(0, count, 1)), api.OK)
			if 64-used >= count+1 {
				marked(t, "there was room", d, 2, 0)
				if j.Room() != 64-used-count-1 {
					t.Errorf("used %d, count %d: Room = %d", used, count, j.Room())
				}
			} else {
				marked(t, "there was none", d, uint64(2+used), used%64)
				if j.Room() != 64-count-1 {
					t.Errorf("used %d, count %d: Room = %d, behind a checkpoint", used, count, j.Room())
				}
			}
			d.Crash(nil)
			d.Start()
			holds(t, "behind a crash", again(t, d), list(0, count, 1))
		}
	}
}

// P7.4: transactions of all sizes go around, from place 63 to 0.
func TestCommitAround(t *testing.T) {
	for count := range 25 {
		p := bothOpened(t, 100)
		for i := range 70 {
			p.commit(list(i%9, count, i))
		}
		p.crash(nil)
		p.start()
		p.open()
	}
}

// P7.5: as many as there may be, from none to all; they are loose, in order, and no place is used.
func TestDirect(t *testing.T) {
	for _, count := range []int{0, 1, 24, 25, 26, 63, 64, 65, 100} {
		d, j := opened(t, 165)
		l := list(0, count, count)
		slices.Reverse(l)
		before := contents(d)[:65]
		tells(t, "Direct", j.Direct(l), api.OK)
		if d.Loose() != count || j.Room() != 64 || !slices.Equal(contents(d)[:65], before) {
			t.Errorf("%d: loose %d, room %d, or another log", count, d.Loose(), j.Room())
		}
		holds(t, "direct", j, l)
		d.Crash([]bool{true, true})
		d.Start()
		holds(t, "the first two", again(t, d), l[:min(2, count)])
	}
	_, j := opened(t, 165)
	tells(t, "more than all", j.Direct(list(0, 101, 1)), api.ErrArg)
	tells(t, "one twice", j.Direct(append(list(0, 100, 1), write(50, "a"))), api.ErrArg)
}

// P7.5: a checkpoint first, if a sector was committed since the last one, be it the first or the last of the list; else none.
func TestDirectCommitted(t *testing.T) {
	for at := range 12 {
		p := bothOpened(t, 90)
		p.commit(list(0, 2, 1))
		p.commit(list(20, 1, 2))
		p.direct(list(5, 12, 3))
		if p.j.Room() != 59 {
			t.Errorf("Room = %d behind a Direct of others", p.j.Room())
		}
		l := list(5, 12, 4)
		l[at].Sector = []int{0, 1, 20}[at%3]
		p.direct(l)
		if p.j.Room() != 64 || p.disk.Loose() != 12 {
			t.Errorf("Room = %d, loose %d behind a Direct of one that was", p.j.Room(), p.disk.Loose())
		}
		loose := p.disk.Loose()
		p.direct(list(0, 3, 5)) // no one was committed since
		if p.disk.Loose() != loose+3 {
			t.Error("a checkpoint for nothing")
		}
	}
}

// P7.5: what counts is the last checkpoint, whoever asked for it: Checkpoint, a Commit, a Direct, or an Open.
func TestDirectSince(t *testing.T) {
	for _, by := range []string{"Checkpoint", "Commit", "Direct", "Open"} {
		p := bothOpened(t, 100)
		p.commit(list(0, 3, 1))
		switch by {
		case "Checkpoint":
			p.checkpoint()
		case "Commit":
			p.commit(list(9, 24, 2))
			p.commit(list(9, 24, 2))
			p.commit(list(9, 24, 2))
		case "Direct":
			p.direct(list(1, 1, 2))
		case "Open":
			p.open()
		}
		room, loose := p.j.Room(), p.disk.Loose()
		p.direct(list(0, 3, 3))
		if p.j.Room() != room || p.disk.Loose() != loose+3 {
			t.Errorf("%s: a checkpoint for nothing", by)
		}
		p.commit(list(2, 1, 4))
		p.direct(list(2, 1, 5))
		if p.j.Room() != 64 {
			t.Errorf("%s: no checkpoint", by)
		}
		p.crash(nil)
		p.start()
		p.open()
	}
}

// P7.5: a checkpoint makes all sure; the mark has the number and the place; it may be asked for again and again.
func TestCheckpoint(t *testing.T) {
	d, j := opened(t, 80)
	j.Commit(list(0, 3, 1))
	j.Direct(list(3, 3, 2))
	for range 3 {
		tells(t, "Checkpoint", j.Checkpoint(), api.OK)
		marked(t, "a checkpoint", d, 3, 4)
		if j.Room() != 64 || d.Loose() != 0 {
			t.Errorf("Room = %d, loose %d", j.Room(), d.Loose())
		}
	}
	d.Crash(nil)
	d.Start()
	j = again(t, d)
	holds(t, "behind a crash", j, list(0, 3, 1), list(3, 3, 2))
	marked(t, "an Open", d, 4, 4)
}

// scenes are things that are done with a pair, each with what is done ahead of it.
func scenes() map[string][2]func(p *pair) {
	nothing := func(*pair) {}
	fresh := func(p *pair) {
		p.format()
		p.open()
	}
	used := func(p *pair) {
		fresh(p)
		p.commit(list(0, 3, 1))
		p.commit(nil)
		p.direct(list(3, 3, 2))
		p.commit(list(1, 4, 3))
	}
	full := func(p *pair) {
		used(p)
		p.commit(list(0, 24, 4))
		p.commit(list(3, 22, 5))
	}
	down := func(p *pair) {
		used(p)
		p.crash([]bool{true})
		p.start()
	}
	commit := func(first, count int) func(p *pair) {
		return func(p *pair) { p.commit(list(first, count, 7)) }
	}
	direct := func(first, count int) func(p *pair) {
		return func(p *pair) { p.direct(list(first, count, 7)) }
	}
	return map[string][2]func(p *pair){
		"Format":                        {nothing, (*pair).format},
		"Format again":                  {used, (*pair).format},
		"Open of a new one":             {func(p *pair) { p.format() }, func(p *pair) { p.open() }},
		"Open of a used one":            {down, func(p *pair) { p.open() }},
		"Commit of none":                {fresh, commit(0, 0)},
		"Commit of one":                 {used, commit(2, 1)},
		"Commit of 24":                  {used, commit(2, 24)},
		"Commit behind a checkpoint":    {full, commit(2, 6)},
		"Direct":                        {used, direct(8, 5)},
		"Direct of many":                {used, direct(8, 25)},
		"Direct behind a checkpoint":    {used, direct(2, 5)},
		"Checkpoint":                    {used, func(p *pair) { p.checkpoint() }},
		"Checkpoint of nothing":         {fresh, func(p *pair) { p.checkpoint() }},
		"Commit that goes around":       {full, func(p *pair) { p.checkpoint(); p.commit(list(2, 8, 7)); p.commit(list(0, 3, 8)) }},
		"Commit and Direct, by turns":   {used, func(p *pair) { p.direct(list(9, 2, 7)); p.commit(list(9, 2, 8)); p.direct(list(9, 2, 9)) }},
		"Commit of what a Direct wrote": {fresh, func(p *pair) { p.direct(list(0, 2, 7)); p.commit(list(1, 2, 8)) }},
	}
}

// P7.1, P7.2, P7.4 to P7.6: a failure at each change, whatever is kept: each step is as the words have it; an Open behind it, and a second one, are too.
func TestFailures(t *testing.T) {
	for what, scene := range scenes() {
		t.Run(what, func(t *testing.T) {
			t.Parallel()
			for _, keep := range keeps(40) {
				for n := 0; failsAt(t, scene, n, keep); n++ {
					if t.Failed() {
						t.Fatalf("the change %d, keep %v", n, keep)
					}
				}
			}
		})
	}
}

// failsAt lets a scene fail at a change; false, if it has less changes than that. It crashes behind it then.
func failsAt(t *testing.T, scene [2]func(p *pair), n int, keep []bool) bool {
	t.Helper()
	p := both(t, 95)
	scene[0](p)
	p.fail(n, keep)
	scene[1](p)
	failed := !p.disk.Up()
	p.crash(keep)
	p.start()
	p.same("up again")
	if p.open() == api.OK {
		behind := contents(p.disk)[65:]
		p.open()
		if !slices.Equal(contents(p.disk)[65:], behind) {
			t.Error("opened twice is not the same as once")
		}
	}
	return failed
}

// P7.1: a failure at each change of a Format that would keep any of its 65 writes.
func TestFormatFailures(t *testing.T) {
	for _, keep := range keeps(65) {
		for n := range 67 {
			p := both(t, 73)
			for i := range 73 {
				p.write(i, mixed(i))
			}
			p.disk.Flush()
			p.twin.Flush()
			p.fail(n, keep)
			p.format()
			if p.disk.Up() != (n == 66) {
				t.Fatalf("the change %d: up %t", n, p.disk.Up())
			}
			p.crash(nil)
			p.start()
			p.same("Format")
			p.open()
		}
	}
}

// known is what is known of a journal's sectors, whatever it is kept by: what each has, and what else it may have behind a crash.
type known struct {
	sure  []string
	loose [][]string
}

// direct: it may be there, or not; what is written is unlike all else.
func (k *known) direct(l []api.Write) {
	for _, w := range l {
		k.loose[w.Sector] = append(k.loose[w.Sector], w.Data)
	}
}

// settle: all that was written directly is sure.
func (k *known) settle() {
	for n, l := range k.loose {
		if len(l) > 0 {
			k.sure[n], k.loose[n] = l[len(l)-1], nil
		}
	}
}

func (k *known) commit(l []api.Write) {
	k.settle()
	for _, w := range l {
		k.sure[w.Sector] = w.Data
	}
}

// agrees tells whether sectors are as is known; behind a crash each may have what was loose.
func (k *known) agrees(l []string) bool {
	for n, s := range l {
		if s != k.sure[n] && !slices.Contains(k.loose[n], s) {
			return false
		}
	}
	return true
}

// sectorsOf are all that a journal has.
func sectorsOf(t *testing.T, j *Journal) []string {
	t.Helper()
	var l []string
	for n := range j.Size() {
		s, e := j.Read(n)
		if e != api.OK {
			t.Fatalf("Read(%d): %d", n, int(e))
		}
		l = append(l, s)
	}
	return l
}

// P7.6: wherever it fails, whatever is kept: Open is OK; all that was told OK is there, and what was being done is there whole, or not at all.
func TestCrashes(t *testing.T) {
	unlike := 0 // each data is another one
	for seed := range 250 {
		r := &numbers{uint32(seed) * 7919}
		size := 73 + r.below(30)
		d, j := opened(t, size)
		k := &known{slices.Repeat([]string{zero}, size-65), make([][]string, size-65)}
		for range 60 {
			l := r.some(r.below(12), size-65)
			for i := range l {
				unlike++
				l[i].Data = mixed(unlike)
			}
			if r.below(3) == 0 {
				d.Fail(r.below(40), r.keep())
			}
			var doing []api.Write
			e := api.OK
			switch r.below(8) {
			case 0:
				if e = j.Checkpoint(); e == api.OK {
					k.settle()
				}
			case 1, 2:
				e = j.Direct(l)
				k.direct(l)
			case 3:
				e = d.Crash(r.keep())
			default:
				if e = j.Commit(l); e == api.OK {
					k.commit(l)
				} else {
					doing = l
				}
			}
			if e != api.OK && e != api.ErrDown {
				t.Fatalf("seed %d: %d", seed, int(e))
			}
			if d.Up() {
				continue
			}
			j = revived(t, d, r)
			was := *k
			was.sure, was.loose = slices.Clone(k.sure), slices.Clone(k.loose)
			was.commit(doing)
			now := sectorsOf(t, j)
			if !k.agrees(now) && !was.agrees(now) {
				t.Fatalf("seed %d: neither as it was, nor as it should be", seed)
			}
			k = &known{now, make([][]string, size-65)}
			j = again(t, d)
			if !slices.Equal(sectorsOf(t, j), now) {
				t.Fatalf("seed %d: opened twice is not the same as once", seed)
			}
		}
	}
}

// revived is the journal of a disk that is down, behind some Opens that fail.
func revived(t *testing.T, d *sectors.Disk, r *numbers) *Journal {
	t.Helper()
	d.Start()
	for range r.below(4) {
		d.Fail(r.below(8), r.keep())
		if _, e := Open(d); e == api.OK {
			d.Crash(r.keep())
		} else {
			tells(t, "an Open that fails", e, api.ErrDown)
		}
		d.Start()
	}
	return again(t, d)
}

// P7.6: what was written directly is there as soon as a Commit behind it was told OK, be it of nothing.
func TestDirectBehindCommit(t *testing.T) {
	for count := range 6 {
		d, j := opened(t, 90)
		j.Commit(list(0, 3, 1))
		j.Direct(list(1, 10, 2))
		tells(t, "Commit", j.Commit(list(20, count, 3)), api.OK)
		d.Crash(nil)
		d.Start()
		holds(t, "all", again(t, d), list(0, 3, 1), list(1, 10, 2), list(20, count, 3))
	}
}

// P7.6: data whose first bytes look like those of a mark, a head, or a data's place come back as they were.
func TestDataLikeHeads(t *testing.T) {
	datas := []string{headBytes(3, list(7, 1, 1)), headBytes(2, nil), dataBytes(all("y")), markBytes(9, 9), "LT01" + zero[4:], "LD01" + all("\xff")[4:], zero}
	for shift := range datas {
		d, j := opened(t, 80)
		var l []api.Write
		for i, data := range datas {
			l = append(l, api.Write{Sector: (i + shift) % len(datas), Data: data})
		}
		tells(t, "Commit", j.Commit(l), api.OK)
		holds(t, "as they were", j, l)
		d.Crash(nil)
		d.Start()
		holds(t, "behind a crash", again(t, d), l)
	}
}

// P7.6: data that are a transaction's bytes do not stand in the log, even where that number comes to their very place.
func TestDataNoTransaction(t *testing.T) {
	inner := []api.Write{write(7, "x")}
	for _, forged := range [][]api.Write{nil, inner} {
		d, j := opened(t, 80)
		// The data of the number 2 are at the places 1 and 2; one place a number from there on, 65 comes to the place 1.
		l := []api.Write{{Sector: 0, Data: headBytes(65, forged)}, {Sector: 1, Data: dataBytes(inner[0].Data)}}
		tells(t, "Commit", j.Commit(l), api.OK)
		for range 62 {
			tells(t, "Commit", j.Commit(nil), api.OK)
		}
		d.Crash(nil)
		d.Start()
		holds(t, "behind a crash", again(t, d), l)
		marked(t, "behind a crash", d, 66, 1)
	}
}

// P7.6: what a transaction left behind does not stand, when its number comes again at a place of its data, nor an older one behind it.
func TestOldOnes(t *testing.T) {
	for count := range 5 {
		d, j := opened(t, 80)
		for i := range 100 {
			tells(t, "Commit", j.Commit(list(i%7, count, i)), api.OK)
		}
		want := sectorsOf(t, j)
		for range 70 {
			d.Crash(nil)
			d.Start()
			j = again(t, d)
			if !slices.Equal(sectorsOf(t, j), want) {
				t.Fatalf("count %d: other sectors", count)
			}
			if count > 0 {
				tells(t, "Commit", j.Commit([]api.Write{write(14, "a")}), api.OK)
				want[14] = all("a")
			}
		}
	}
}

// R4: lists stay as they were, and are not looked at later; what stands behind their ends does not count.
func TestLists(t *testing.T) {
	d, j := opened(t, 80)
	long := append(list(0, 4, 1), write(99, "a"))
	for _, do := range []func([]api.Write) api.Errno{j.Commit, j.Direct} {
		l := long[:4]
		tells(t, "a list with room", do(l), api.OK)
		if !slices.Equal(long, append(list(0, 4, 1), write(99, "a"))) {
			t.Error("the list was changed")
		}
	}
	l := list(0, 4, 2)
	tells(t, "Commit", j.Commit(l), api.OK)
	for i := range l {
		l[i] = write(5+i, "z")
	}
	holds(t, "the list was changed later", j, list(0, 4, 2))
	tells(t, "Direct of what was not committed", j.Direct(l), api.OK)
	if j.Room() != 59 {
		t.Errorf("Room = %d: the later list was looked at", j.Room())
	}
	d.Flush()
	d.Crash(nil)
	d.Start()
	holds(t, "behind a crash", again(t, d), list(0, 4, 2), l)
}

// R2: a journal's answers hang on what its own disk was asked alone.
func TestOthers(t *testing.T) {
	d, j := opened(t, 80)
	other, k := opened(t, 90)
	j.Commit(list(0, 3, 1))
	k.Commit(list(0, 9, 2))
	other.Crash(nil)
	holds(t, "the first", j, list(0, 3, 1))
	if j.Room() != 60 || k.Room() != 54 || j.Size() != 15 || k.Size() != 25 {
		t.Errorf("room %d and %d, size %d and %d", j.Room(), k.Room(), j.Size(), k.Size())
	}
	tells(t, "Commit", j.Commit(list(0, 3, 3)), api.OK)
	tells(t, "Commit of the other one", k.Commit(nil), api.ErrDown)
	marked(t, "the first", d, 2, 0)
}

// R2: a copy of a journal's value is that journal, by whichever of both it is asked.
func TestCopy(t *testing.T) {
	d, j := opened(t, 80)
	j.Commit(list(0, 2, 1))
	k := *j
	tells(t, "Commit of the copy", k.Commit(list(1, 2, 2)), api.OK)
	tells(t, "Commit", j.Commit(list(2, 2, 3)), api.OK)
	if j.Room() != 55 || k.Room() != 55 {
		t.Errorf("Room = %d, and %d", j.Room(), k.Room())
	}
	d.Crash(nil)
	d.Start()
	holds(t, "behind a crash", again(t, d), list(0, 2, 1), list(1, 2, 2), list(2, 2, 3))
}

// P7.1 to P7.6: whatever is done, in whichever order, is as the words have it, change by change.
func TestAsTheWords(t *testing.T) {
	for seed := range 150 {
		r := &numbers{uint32(seed)*977 + 5}
		p := bothOpened(t, 73+r.below(30))
		for step := range 80 {
			l := r.some(r.below(26), p.j.Size()+r.below(2))
			if r.below(12) == 0 && len(l) > 0 {
				l[r.below(len(l))] = api.Write{Sector: r.below(p.j.Size()+2) - 1, Data: mixed(step)[r.below(2):]}
			}
			switch r.below(12) {
			case 0:
				p.open()
			case 1:
				p.crash(r.keep())
				p.same("Crash")
			case 2, 3:
				p.start()
				p.same("Start")
				p.open()
			case 4:
				p.fail(r.below(50), r.keep())
			case 5:
				p.checkpoint()
			case 6, 7:
				p.direct(l)
			case 8:
				p.read(r.below(p.j.Size()+2) - 1)
			default:
				p.commit(l)
			}
			if t.Failed() {
				t.Fatalf("seed %d, step %d", seed, step)
			}
		}
	}
}

// The document's examples, in their order, on one disk.
func TestExamples(t *testing.T) {
	d := blank(t, 73)
	tells(t, "Format", Format(d), api.OK)
	j := again(t, d)
	if j.Size() != 8 || j.Room() != 64 {
		t.Errorf("size %d, room %d", j.Size(), j.Room())
	}
	tells(t, "Commit", j.Commit([]api.Write{write(0, "a"), write(3, "b")}), api.OK)
	if j.Room() != 61 {
		t.Errorf("room %d", j.Room())
	}
	tells(t, "Commit", j.Commit([]api.Write{write(9, "c")}), api.ErrArg)
	d.Crash(nil)
	d.Start()
	j = again(t, d)
	has(t, j, 0, all("a"))
	has(t, j, 3, all("b"))
	if j.Room() != 64 {
		t.Errorf("room %d", j.Room())
	}
}
