package sectors

import (
	"math"
	"slices"
	"strings"
	"testing"

	"lighter/api"
)

// far are numbers that no disk has as a sector, nor as its size.
var far = []int{math.MinInt, math.MinInt + 1, -1 << 32, -4096, -8, -2, -1, 4097, 1 << 32, math.MaxInt - 1, math.MaxInt}

// zero is what each sector has at first.
var zero = strings.Repeat("\x00", 512)

// all is a sector of one letter.
func all(letter string) string { return strings.Repeat(letter, 512) }

// mixed is a sector that is unlike for each seed, and has all kinds of bytes.
func mixed(seed int) string {
	b := make([]byte, 512)
	n := uint32(seed)*2654435761 + 12345
	for i := range b {
		n = n*1664525 + 1013904223
		b[i] = byte(n >> 24)
	}
	return string(b)
}

// model is a disk by the words of the document.
type model struct {
	sure   []string
	loose  []api.Write
	up     bool
	starts int
	fails  bool
	left   int
	keep   []bool
}

func newModel(n int) *model {
	m := &model{up: true}
	for range n {
		m.sure = append(m.sure, zero)
	}
	return m
}

// has is a sector's last loose write, or what is sure.
func (m *model) has(n int) string {
	s := m.sure[n]
	for _, w := range m.loose {
		if w.Sector == n {
			s = w.Data
		}
	}
	return s
}

func (m *model) settle(keep []bool) {
	for i := range min(len(keep), len(m.loose)) {
		if keep[i] {
			m.sure[m.loose[i].Sector] = m.loose[i].Data
		}
	}
	m.loose = nil
}

func (m *model) crash(keep []bool) api.Errno {
	if !m.up {
		return api.ErrDown
	}
	m.settle(keep)
	m.up, m.fails = false, false
	return api.OK
}

// hit tells whether this change is the one with which it crashes.
func (m *model) hit() bool {
	if m.fails && m.left == 0 {
		return true
	}
	m.left--
	return false
}

func (m *model) write(n int, data string) api.Errno {
	switch {
	case !m.up:
		return api.ErrDown
	case n < 0 || n >= len(m.sure) || len(data) != 512:
		return api.ErrArg
	}
	m.loose = append(m.loose, api.Write{Sector: n, Data: data})
	if m.hit() {
		m.crash(m.keep)
		return api.ErrDown
	}
	return api.OK
}

func (m *model) flush() api.Errno {
	if !m.up {
		return api.ErrDown
	}
	if m.hit() {
		m.crash(m.keep)
		return api.ErrDown
	}
	m.settle(slices.Repeat([]bool{true}, len(m.loose)))
	return api.OK
}

func (m *model) fail(n int, keep []bool) api.Errno {
	switch {
	case !m.up:
		return api.ErrDown
	case n < 0:
		return api.ErrArg
	}
	m.fails, m.left, m.keep = true, n, slices.Clone(keep)
	return api.OK
}

func (m *model) start() api.Errno {
	if m.up {
		return api.ErrArg
	}
	m.up = true
	m.starts++
	return api.OK
}

// made is a disk of so many sectors.
func made(t *testing.T, n int) *Disk {
	t.Helper()
	d, e := New(n)
	if d == nil || e != api.OK {
		t.Fatalf("New(%d) = %v, %d", n, d, int(e))
	}
	return d
}

// tells fails, if an error is another one.
func tells(t *testing.T, what string, e, want api.Errno) {
	t.Helper()
	if e != want {
		t.Errorf("%s: %d; want %d", what, int(e), int(want))
	}
}

// has fails, if a sector has something else.
func has(t *testing.T, d *Disk, n int, want string) {
	t.Helper()
	if s, e := d.Read(n); s != want || e != api.OK {
		t.Errorf("Read(%d) = %.8q (%d bytes), %d; want %.8q", n, s, len(s), int(e), want)
	}
}

// is fails, if a disk is not as the model: all sectors, and those beyond.
func is(t *testing.T, what string, d *Disk, m *model) {
	t.Helper()
	if d.Size() != len(m.sure) || d.Loose() != len(m.loose) || d.Up() != m.up || d.Starts() != m.starts {
		t.Fatalf("%s: size %d, loose %d, up %t, starts %d; want %d, %d, %t, %d",
			what, d.Size(), d.Loose(), d.Up(), d.Starts(), len(m.sure), len(m.loose), m.up, m.starts)
	}
	for n := -1; n <= len(m.sure); n++ {
		want, wantErr := "", api.ErrArg
		if !m.up {
			wantErr = api.ErrDown
		} else if n >= 0 && n < len(m.sure) {
			want, wantErr = m.has(n), api.OK
		}
		if s, e := d.Read(n); s != want || e != wantErr {
			t.Fatalf("%s: Read(%d) = %.8q, %d; want %.8q, %d", what, n, s, int(e), want, int(wantErr))
		}
	}
}

// lists are all lists of up to so many bools.
func lists(most int) [][]bool {
	l := [][]bool{nil}
	for size := range most + 1 {
		for bits := range 1 << size {
			keep := make([]bool, size)
			for i := range keep {
				keep[i] = bits>>i&1 == 1
			}
			l = append(l, keep)
		}
	}
	return l
}

// The sentence ahead of the promises: of a disk that is none, whatever is asked, and behind it.
func TestNone(t *testing.T) {
	for what, d := range map[string]*Disk{"nil": nil, "new": new(Disk), "a literal": {}} {
		for range 2 {
			for _, n := range append([]int{0, 1, 7, 8}, far...) {
				if s, e := d.Read(n); s != "" || e != api.ErrNil {
					t.Errorf("%s: Read(%d) = %q, %d", what, n, s, int(e))
				}
				for _, data := range []string{"", "x", all("x")} {
					tells(t, what+": Write", d.Write(n, data), api.ErrNil)
				}
				for _, keep := range lists(2) {
					tells(t, what+": Fail", d.Fail(n, keep), api.ErrNil)
				}
			}
			tells(t, what+": Flush", d.Flush(), api.ErrNil)
			for _, keep := range lists(2) {
				tells(t, what+": Crash", d.Crash(keep), api.ErrNil)
			}
			tells(t, what+": Start", d.Start(), api.ErrNil)
			if d.Size() != 0 || d.Loose() != 0 || d.Up() || d.Starts() != 0 {
				t.Errorf("%s: %d, %d, %t, %d", what, d.Size(), d.Loose(), d.Up(), d.Starts())
			}
		}
	}
}

// P6.1: disks of all sizes that may be: all of it zeros, sure and up.
func TestNew(t *testing.T) {
	for _, n := range []int{8, 9, 72, 73, 500, 4095, 4096} {
		d := made(t, n)
		is(t, "a new disk", d, newModel(n))
		tells(t, "Crash of none", d.Crash([]bool{true}), api.OK)
		tells(t, "Start", d.Start(), api.OK)
		m := newModel(n)
		m.starts = 1
		is(t, "a new disk behind a crash", d, m)
	}
}

// P6.1: sizes that may not be.
func TestNewWrong(t *testing.T) {
	for _, n := range append([]int{0, 1, 6, 7, 4097, 4098, 8192}, far...) {
		if d, e := New(n); d != nil || e != api.ErrArg {
			t.Errorf("New(%d) = %v, %d", n, d, int(e))
		}
	}
}

// P6.1: Loose counts writes, not sectors; what is refused is none.
func TestLoose(t *testing.T) {
	d := made(t, 8)
	for i := range 20 {
		if d.Loose() != i {
			t.Errorf("Loose = %d; want %d", d.Loose(), i)
		}
		d.Write(i%3, mixed(i))
		d.Write(8, mixed(i))
		d.Write(i%3, "x")
	}
	d.Flush()
	if d.Loose() != 0 {
		t.Errorf("Loose = %d behind a Flush", d.Loose())
	}
	d.Write(0, zero) // what it had is a write, too
	if d.Loose() != 1 {
		t.Errorf("Loose = %d; want 1", d.Loose())
	}
	d.Crash(nil)
	if d.Loose() != 0 {
		t.Errorf("Loose = %d, when it is down", d.Loose())
	}
	d.Start()
	if d.Loose() != 0 {
		t.Errorf("Loose = %d behind a Start", d.Loose())
	}
}

// P6.1: what is told of a disk that is down, and how often Start was OK.
func TestStarts(t *testing.T) {
	d := made(t, 11)
	for i := range 5 {
		tells(t, "Start of one that is up", d.Start(), api.ErrArg)
		if d.Starts() != i || !d.Up() || d.Size() != 11 {
			t.Errorf("up: starts %d, up %t, size %d; want %d", d.Starts(), d.Up(), d.Size(), i)
		}
		tells(t, "Crash", d.Crash(nil), api.OK)
		if d.Starts() != i || d.Up() || d.Size() != 11 || d.Loose() != 0 {
			t.Errorf("down: starts %d, up %t, size %d, loose %d; want %d", d.Starts(), d.Up(), d.Size(), d.Loose(), i)
		}
		tells(t, "Start", d.Start(), api.OK)
	}
	if d.Starts() != 5 {
		t.Errorf("Starts = %d; want 5", d.Starts())
	}
}

// P6.2: each sector has its own, the first and the last one too, loose and sure.
func TestReadWrite(t *testing.T) {
	for _, n := range []int{8, 9, 73, 4096} {
		d := made(t, n)
		check := func(last int) {
			t.Helper()
			for i := range n {
				want := mixed(i)
				if i == n-1 {
					want = mixed(last)
				}
				has(t, d, i, want)
			}
		}
		for i := range n {
			tells(t, "Write", d.Write(i, mixed(i)), api.OK)
		}
		if d.Loose() != n {
			t.Errorf("Loose = %d; want %d", d.Loose(), n)
		}
		check(n - 1)
		tells(t, "Flush", d.Flush(), api.OK)
		check(n - 1)
		tells(t, "Write", d.Write(n-1, mixed(7777)), api.OK)
		check(7777)
	}
}

// P6.2: of several loose writes of one sector Read tells the last one, whatever is sure, and whatever was written to others.
func TestReadTheLast(t *testing.T) {
	d := made(t, 8)
	has(t, d, 2, zero)
	d.Write(2, all("a"))
	has(t, d, 2, all("a"))
	d.Write(3, all("x"))
	has(t, d, 2, all("a"))
	d.Write(2, all("b"))
	d.Write(7, all("y"))
	d.Write(0, all("z"))
	has(t, d, 2, all("b"))
	d.Flush()
	has(t, d, 2, all("b"))
	d.Write(2, all("c"))
	d.Write(2, zero)
	has(t, d, 2, zero)
	has(t, d, 3, all("x"))
	has(t, d, 7, all("y"))
	has(t, d, 0, all("z"))
	has(t, d, 1, zero)
}

// P6.2: sectors that are not there, and data that has another size; nothing changes.
func TestReadWriteWrong(t *testing.T) {
	for _, size := range []int{8, 73, 4096} {
		d := made(t, size)
		m := newModel(size)
		for i := range 3 {
			d.Write(i, mixed(i))
			m.write(i, mixed(i))
		}
		for _, n := range append([]int{size, size + 1, size + 8}, far...) {
			if s, e := d.Read(n); s != "" || e != api.ErrArg {
				t.Errorf("Read(%d) of %d = %q, %d", n, size, s, int(e))
			}
			for _, data := range []string{"", all("x")} {
				tells(t, "Write of no sector", d.Write(n, data), api.ErrArg)
			}
		}
		for _, bytes := range []int{0, 1, 256, 510, 511, 513, 514, 1024, 4096, 1 << 20} {
			for _, n := range []int{0, 1, size - 1} {
				tells(t, "Write of another size", d.Write(n, strings.Repeat("x", bytes)), api.ErrArg)
			}
		}
		tells(t, "Write of 512 letters", d.Write(0, strings.Repeat("\u00e4", 512)), api.ErrArg)
		is(t, "what is refused", d, m)
		tells(t, "Write of 512 bytes", d.Write(0, strings.Repeat("\u00e4", 256)), api.OK)
		has(t, d, 0, strings.Repeat("\u00e4", 256))
	}
}

// P6.2: Flush settles all of them in order, none, one, and several of one sector.
func TestFlush(t *testing.T) {
	d := made(t, 8)
	tells(t, "Flush of none", d.Flush(), api.OK)
	d.Write(4, all("a"))
	tells(t, "Flush of one", d.Flush(), api.OK)
	d.Write(5, all("b"))
	d.Write(5, all("c"))
	d.Write(6, all("d"))
	d.Write(5, all("e"))
	tells(t, "Flush of several", d.Flush(), api.OK)
	d.Crash(nil)
	d.Start()
	for n, want := range []string{zero, zero, zero, zero, all("a"), all("e"), all("d"), zero} {
		has(t, d, n, want)
	}
}

// P6.3: each list of up to two more than there are loose writes, at none, one, and some of one sector and of others.
func TestCrash(t *testing.T) {
	for _, sectors := range [][]int{{}, {3}, {3, 3}, {0, 7}, {3, 3, 3}, {1, 3, 1}, {3, 1, 1}, {2, 3, 2, 3}, {0, 1, 2, 3, 0}} {
		for _, keep := range lists(len(sectors) + 2) {
			d, m := made(t, 8), newModel(8)
			for i := range 8 {
				d.Write(i, mixed(100+i))
				m.write(i, mixed(100+i))
			}
			d.Flush()
			m.flush()
			for i, n := range sectors {
				d.Write(n, mixed(i))
				m.write(n, mixed(i))
			}
			was := slices.Clone(keep)
			tells(t, "Crash", d.Crash(keep), api.OK)
			m.crash(keep)
			if !slices.Equal(keep, was) {
				t.Errorf("Crash changed its list %v to %v", was, keep)
			}
			is(t, "down", d, m)
			clear(keep)
			tells(t, "Start", d.Start(), api.OK)
			m.start()
			is(t, "up again", d, m)
		}
	}
}

// P6.3: what is told at once by words: the document's example, and a list that is far too long.
func TestCrashKnown(t *testing.T) {
	d := made(t, 8)
	d.Write(2, all("a"))
	d.Write(2, all("b"))
	tells(t, "Crash", d.Crash([]bool{true}), api.OK)
	tells(t, "Start", d.Start(), api.OK)
	has(t, d, 2, all("a"))
	d.Write(2, all("c"))
	d.Write(2, all("d"))
	d.Crash([]bool{true, true})
	d.Start()
	has(t, d, 2, all("d"))
	d.Write(2, all("e"))
	d.Crash(slices.Repeat([]bool{true}, 1<<16))
	d.Start()
	has(t, d, 2, all("e"))
	// What was not kept is gone for good: neither a Flush nor another crash brings it.
	d.Write(2, all("f"))
	d.Crash([]bool{false})
	d.Start()
	d.Flush()
	d.Crash([]bool{true, true})
	d.Start()
	has(t, d, 2, all("e"))
}

// P6.2, P6.3, P6.4: whatever is asked of a disk that is down tells ErrDown, also with arguments that may not be, and changes nothing.
func TestDown(t *testing.T) {
	for _, by := range []string{"Crash", "Fail"} {
		d, m := made(t, 8), newModel(8)
		d.Write(1, all("a"))
		m.write(1, all("a"))
		if by == "Crash" {
			d.Crash([]bool{true})
		} else {
			d.Fail(0, []bool{true})
			tells(t, "Flush", d.Flush(), api.ErrDown)
		}
		m.crash([]bool{true})
		for range 3 {
			for _, n := range append([]int{0, 1, 7, 8}, far...) {
				if s, e := d.Read(n); s != "" || e != api.ErrDown {
					t.Errorf("Read(%d) = %.8q, %d", n, s, int(e))
				}
				for _, data := range []string{"", "x", all("x"), all("xx")} {
					tells(t, "Write", d.Write(n, data), api.ErrDown)
				}
				tells(t, "Fail", d.Fail(n, []bool{true}), api.ErrDown)
			}
			tells(t, "Flush", d.Flush(), api.ErrDown)
			tells(t, "Crash", d.Crash(nil), api.ErrDown)
			tells(t, "Crash", d.Crash([]bool{true, true}), api.ErrDown)
			is(t, "down", d, m)
		}
		tells(t, "Start", d.Start(), api.OK)
		m.start()
		is(t, "up again", d, m)
		// None of the failures that were refused is set.
		for i := range 5 {
			tells(t, "Write", d.Write(i, mixed(i)), api.OK)
			m.write(i, mixed(i))
			tells(t, "Flush", d.Flush(), api.OK)
			m.flush()
		}
		is(t, "behind it", d, m)
	}
}

// P6.3: Start of one that is up changes nothing, neither what is loose, nor the failure that is set.
func TestStartUp(t *testing.T) {
	d := made(t, 8)
	d.Write(1, all("a"))
	d.Fail(1, []bool{false, true})
	tells(t, "Start", d.Start(), api.ErrArg)
	if d.Loose() != 1 || d.Starts() != 0 || !d.Up() {
		t.Errorf("loose %d, starts %d, up %t", d.Loose(), d.Starts(), d.Up())
	}
	has(t, d, 1, all("a"))
	tells(t, "Write", d.Write(2, all("b")), api.OK)
	tells(t, "Flush", d.Flush(), api.ErrDown)
	d.Start()
	has(t, d, 1, zero)
	has(t, d, 2, all("b"))
}

// steps are changes of a disk, W a Write of the sector that follows, F a Flush.
var steps = []string{"F", "W", "WF", "FW", "WW", "FF", "WWF", "WFW", "FWW", "WWWFWW", "FFWFWWWF"}

// P6.4: a failure at each change of some, with each list: so many are done, and the next one is not OK.
func TestFail(t *testing.T) {
	for _, changes := range steps {
		for left := range len(changes) + 1 {
			for _, keep := range lists(4) {
				d, m := made(t, 8), newModel(8)
				tells(t, "Fail", d.Fail(left, keep), api.OK)
				m.fail(left, keep)
				for i, c := range changes {
					want := api.OK
					if i >= left {
						want = api.ErrDown
					}
					if c == 'F' {
						tells(t, "Flush", d.Flush(), want)
						m.flush()
					} else {
						tells(t, "Write", d.Write(i/2, mixed(i)), want)
						m.write(i/2, mixed(i))
					}
					is(t, changes, d, m)
				}
				if left < len(changes) {
					tells(t, "Start", d.Start(), api.OK)
					m.start()
					is(t, changes, d, m)
				}
			}
		}
	}
}

// P6.4: a failure that hits a Write: that one is loose, too, at the last place.
func TestFailWrite(t *testing.T) {
	for _, x := range []struct {
		keep       []bool
		one, other string
	}{
		{nil, zero, zero},
		{[]bool{}, zero, zero},
		{[]bool{true}, all("a"), zero},
		{[]bool{false, true}, zero, all("b")},
		{[]bool{true, true}, all("a"), all("b")},
		{[]bool{false, true, true, true}, zero, all("b")},
		{[]bool{false, false, true}, zero, zero},
	} {
		d := made(t, 8)
		d.Fail(1, x.keep)
		tells(t, "Write", d.Write(1, all("a")), api.OK)
		tells(t, "Write", d.Write(2, all("b")), api.ErrDown)
		if d.Up() || d.Loose() != 0 || d.Starts() != 0 {
			t.Errorf("up %t, loose %d, starts %d", d.Up(), d.Loose(), d.Starts())
		}
		d.Start()
		has(t, d, 1, x.one)
		has(t, d, 2, x.other)
	}
}

// P6.4: a failure that hits a Flush: what is loose is not settled, but for what the list keeps.
func TestFailFlush(t *testing.T) {
	for _, x := range []struct {
		keep       []bool
		one, other string
	}{
		{nil, all("x"), zero},
		{[]bool{true}, all("a"), zero},
		{[]bool{false, true}, all("x"), all("b")},
		{[]bool{true, true, true}, all("a"), all("b")},
	} {
		d := made(t, 8)
		d.Write(1, all("x"))
		d.Flush()
		d.Write(1, all("a"))
		d.Write(2, all("b"))
		d.Fail(0, x.keep)
		tells(t, "Flush", d.Flush(), api.ErrDown)
		if d.Up() || d.Loose() != 0 {
			t.Errorf("up %t, loose %d", d.Up(), d.Loose())
		}
		d.Start()
		has(t, d, 1, x.one)
		has(t, d, 2, x.other)
	}
}

// P6.4: just changes count: neither what is refused, nor what is asked.
func TestFailCounts(t *testing.T) {
	d := made(t, 8)
	d.Fail(2, nil)
	others := func() {
		for _, n := range far {
			tells(t, "Write of no sector", d.Write(n, all("x")), api.ErrArg)
		}
		tells(t, "Write of the sector 8", d.Write(8, all("x")), api.ErrArg)
		tells(t, "Write of 511 bytes", d.Write(1, all("x")[1:]), api.ErrArg)
		tells(t, "Write of 513 bytes", d.Write(1, all("x")+"x"), api.ErrArg)
		tells(t, "Start", d.Start(), api.ErrArg)
		tells(t, "Fail", d.Fail(-1, []bool{true}), api.ErrArg)
		d.Read(0)
		d.Read(8)
		if !d.Up() || d.Size() != 8 || d.Starts() != 0 {
			t.Errorf("up %t, size %d, starts %d", d.Up(), d.Size(), d.Starts())
		}
	}
	others()
	tells(t, "Flush", d.Flush(), api.OK)
	others()
	tells(t, "Write", d.Write(1, all("a")), api.OK)
	others()
	tells(t, "Write", d.Write(1, all("b")), api.ErrDown)
}

// P6.4: a failure behind less than no change is none, and one that was set stays.
func TestFailWrong(t *testing.T) {
	for _, n := range []int{-1, -2, -8, math.MinInt} {
		d := made(t, 8)
		tells(t, "Fail", d.Fail(n, nil), api.ErrArg)
		for range 20 {
			tells(t, "Flush", d.Flush(), api.OK)
		}
		d.Fail(1, []bool{true})
		tells(t, "Fail", d.Fail(n, nil), api.ErrArg)
		tells(t, "Write", d.Write(0, all("a")), api.OK)
		tells(t, "Fail", d.Fail(n, nil), api.ErrArg)
		tells(t, "Flush", d.Flush(), api.ErrDown)
		d.Start()
		has(t, d, 0, all("a"))
	}
}

// P6.4: a second failure stands in the place of the first: a nearer one, a further one, and one with another list.
func TestFailTwice(t *testing.T) {
	for first := range 4 {
		for second := range 4 {
			for between := range first + 1 {
				d := made(t, 8)
				tells(t, "Fail", d.Fail(first, []bool{true}), api.OK)
				for range between {
					tells(t, "Flush", d.Flush(), api.OK)
				}
				tells(t, "Fail", d.Fail(second, []bool{false, true}), api.OK)
				for range second {
					tells(t, "Flush", d.Flush(), api.OK)
				}
				tells(t, "Flush", d.Flush(), api.ErrDown)
			}
		}
	}
	d := made(t, 8)
	d.Fail(1, []bool{true})
	d.Write(1, all("a"))
	d.Fail(1, []bool{false, true})
	d.Write(2, all("b"))
	tells(t, "Flush", d.Flush(), api.ErrDown)
	d.Start()
	has(t, d, 1, zero)
	has(t, d, 2, all("b"))
}

// P6.4: a disk that went down, by a failure, or by a Crash ahead of it, has none set any more.
func TestFailOnce(t *testing.T) {
	for _, by := range []string{"Crash", "Fail"} {
		d := made(t, 8)
		if by == "Crash" {
			d.Fail(2, []bool{true})
			tells(t, "Flush", d.Flush(), api.OK)
			tells(t, "Crash", d.Crash(nil), api.OK)
		} else {
			d.Fail(0, []bool{true})
			tells(t, "Flush", d.Flush(), api.ErrDown)
		}
		tells(t, "Start", d.Start(), api.OK)
		for i := range 20 {
			tells(t, "Write", d.Write(i%8, mixed(i)), api.OK)
			tells(t, "Flush", d.Flush(), api.OK)
		}
		d.Fail(1, nil)
		tells(t, "Write", d.Write(0, all("a")), api.OK)
		tells(t, "Write", d.Write(0, all("b")), api.ErrDown)
	}
}

// P6.4: a failure that is far away never comes.
func TestFailFar(t *testing.T) {
	for _, n := range []int{1 << 20, 1 << 32, math.MaxInt} {
		d := made(t, 8)
		tells(t, "Fail", d.Fail(n, nil), api.OK)
		for i := range 200 {
			tells(t, "Write", d.Write(i%8, mixed(i)), api.OK)
			tells(t, "Flush", d.Flush(), api.OK)
		}
	}
}

// P6.4, R4: the list counts as it was when it was handed in, and stays as it was.
func TestFailList(t *testing.T) {
	for _, was := range lists(3) {
		d, m := made(t, 8), newModel(8)
		keep := slices.Clone(was)
		d.Fail(2, keep)
		m.fail(2, was)
		for i := range keep {
			keep[i] = !keep[i]
		}
		changed := slices.Clone(keep)
		for i := range 3 {
			d.Write(i, mixed(i))
			m.write(i, mixed(i))
		}
		if !slices.Equal(keep, changed) {
			t.Errorf("the list %v is now %v", changed, keep)
		}
		d.Start()
		m.start()
		is(t, "up again", d, m)
	}
}

// R4: a list that has room behind its end is not looked at there.
func TestListsEnd(t *testing.T) {
	long := []bool{true, true, true}
	for _, by := range []string{"Crash", "Fail"} {
		d := made(t, 8)
		for i := range 3 {
			d.Write(i, mixed(i))
		}
		if by == "Crash" {
			d.Crash(long[:1])
		} else {
			d.Fail(0, long[:1])
			d.Flush()
		}
		d.Start()
		has(t, d, 0, mixed(0))
		has(t, d, 1, zero)
		has(t, d, 2, zero)
	}
}

// P6.5: what was flushed is there behind each crash, until it is written again; each sector has what was sure, or one of its loose writes.
func TestFlushedIsThere(t *testing.T) {
	for seed := range 400 {
		r := &numbers{uint32(seed)}
		d := made(t, 8)
		var flushed [8]string
		var written [8][]string
		for i := range flushed {
			flushed[i] = zero
		}
		for step := range 60 {
			n := r.below(8)
			data := mixed(1000*seed + step)
			switch r.below(8) {
			case 0:
				if d.Flush() == api.OK {
					for i := range written {
						if l := written[i]; len(l) > 0 {
							flushed[i], written[i] = l[len(l)-1], nil
						}
					}
				}
			case 1:
				d.Fail(r.below(4), r.list())
			case 2:
				d.Crash(r.list())
			default:
				if d.Up() {
					written[n] = append(written[n], data)
				}
				d.Write(n, data)
			}
			if d.Up() {
				continue
			}
			d.Start()
			for i := range flushed {
				s, e := d.Read(i)
				if e != api.OK || s != flushed[i] && !slices.Contains(written[i], s) {
					t.Fatalf("seed %d: the sector %d has %.8q, %d; %.8q was flushed", seed, i, s, int(e), flushed[i])
				}
				flushed[i], written[i] = s, nil
			}
		}
	}
}

// numbers are mixed ones.
type numbers struct{ last uint32 }

func (r *numbers) below(n int) int {
	r.last = r.last*1664525 + 1013904223
	return int(r.last>>8) % n
}

func (r *numbers) list() []bool {
	l := make([]bool, r.below(7))
	for i := range l {
		l[i] = r.below(2) == 1
	}
	return l
}

// P6.1 to P6.5: whatever is done, in whichever order, is as the model has it.
func TestAsTheModel(t *testing.T) {
	for seed := range 300 {
		r := &numbers{uint32(seed) * 977}
		size := 8 + r.below(4)
		d, m := made(t, size), newModel(size)
		for step := range 80 {
			n, data, keep := r.below(size+2)-1, mixed(r.below(1<<20)), r.list()
			switch r.below(12) {
			case 0, 1:
				tells(t, "Flush", d.Flush(), m.flush())
			case 2:
				tells(t, "Crash", d.Crash(keep), m.crash(keep))
			case 3, 4:
				tells(t, "Start", d.Start(), m.start())
			case 5:
				left := r.below(6) - 1
				tells(t, "Fail", d.Fail(left, keep), m.fail(left, keep))
			case 6:
				data = data[:r.below(513)]
				fallthrough
			default:
				tells(t, "Write", d.Write(n, data), m.write(n, data))
			}
			is(t, "as the model", d, m)
			if t.Failed() {
				t.Fatalf("seed %d, step %d", seed, step)
			}
		}
	}
}

// R2: a disk's answers hang on what it was asked alone: another one, at which all else is done, makes no difference.
func TestOthers(t *testing.T) {
	d, other := made(t, 8), made(t, 8)
	d.Write(1, all("a"))
	other.Write(1, all("b"))
	has(t, d, 1, all("a"))
	other.Fail(0, nil)
	tells(t, "Flush", d.Flush(), api.OK)
	tells(t, "Flush of the other one", other.Flush(), api.ErrDown)
	if !d.Up() || d.Starts() != 0 || other.Up() {
		t.Errorf("up %t, starts %d; the other one up %t", d.Up(), d.Starts(), other.Up())
	}
	other.Start()
	has(t, d, 1, all("a"))
	has(t, other, 1, zero)
	if d.Starts() != 0 || other.Starts() != 1 {
		t.Errorf("starts %d, and %d", d.Starts(), other.Starts())
	}
}

// R2: a copy of a disk's value is that disk, by whichever of both it is asked.
func TestCopy(t *testing.T) {
	d := made(t, 8)
	d.Write(1, all("a"))
	other := *d
	other.Write(2, all("b"))
	d.Write(3, all("c"))
	for _, one := range []*Disk{d, &other} {
		has(t, one, 1, all("a"))
		has(t, one, 2, all("b"))
		has(t, one, 3, all("c"))
		if one.Loose() != 3 {
			t.Errorf("Loose = %d; want 3", one.Loose())
		}
	}
	other.Crash([]bool{true})
	tells(t, "Crash", d.Crash(nil), api.ErrDown)
	d.Start()
	has(t, &other, 1, all("a"))
	has(t, &other, 2, zero)
}

// The document's examples, in their order, on one disk.
func TestExamples(t *testing.T) {
	d := made(t, 8)
	d.Write(2, all("a"))
	d.Write(2, all("b"))
	d.Crash([]bool{true})
	d.Start()
	has(t, d, 2, all("a"))
	tells(t, "Write", d.Write(9, all("x")), api.ErrArg)
	tells(t, "Write", d.Write(1, "x"), api.ErrArg)
	tells(t, "Fail", d.Fail(1, nil), api.OK)
	tells(t, "Flush", d.Flush(), api.OK)
	tells(t, "Flush", d.Flush(), api.ErrDown)
	if d.Up() {
		t.Error("it is up")
	}
}
