package alloc

import (
	"fmt"
	"math"
	"slices"
	"strings"
	"testing"

	"lighter/api"
)

// far are numbers that no map has as its size, nor as a block, nor so many free blocks.
var far = []int{math.MinInt, math.MinInt + 1, -1 << 32, -4096, -2, -1, 4097, 1 << 32, math.MaxInt - 4096, math.MaxInt - 1, math.MaxInt}

// sizes are such that fill their last byte, and such that do not.
var sizes = []int{1, 2, 7, 8, 9, 15, 16, 17, 20, 63, 64, 65, 4088, 4095, 4096}

// model is a map by the words of the document: of each block whether it is in use.
type model []bool

// bits has one for each block: that of the byte i / 8 whose weight is 2 to the i modulo 8.
func (m model) bits() string {
	l := make([]int, (len(m)+7)/8)
	for i, on := range m {
		if on {
			l[i/8] += []int{1, 2, 4, 8, 16, 32, 64, 128}[i%8]
		}
	}
	b := make([]byte, len(l))
	for i, n := range l {
		b[i] = byte(n)
	}
	return string(b)
}

// count is how many blocks of some are in use, or are not.
func (m model) count(on bool) int {
	n := 0
	for _, x := range m {
		if x == on {
			n++
		}
	}
	return n
}

// together is the first place where n blocks that stand together are not in use; -1, if there is none.
func (m model) together(n int) int {
	for i := 0; i+n <= len(m); i++ {
		if !slices.Contains(m[i:i+n], true) {
			return i
		}
	}
	return -1
}

func (m model) take(n int) ([]api.Extent, bool) {
	if n < 1 || n > m.count(false) {
		return nil, false
	}
	var places []int
	if first := m.together(n); first >= 0 {
		for i := range n {
			places = append(places, first+i)
		}
	} else {
		for i, on := range m {
			if !on && len(places) < n {
				places = append(places, i)
			}
		}
	}
	var l []api.Extent
	for i, p := range places {
		if i == 0 || p != places[i-1]+1 {
			l = append(l, api.Extent{First: p})
		}
		l[len(l)-1].Count++
	}
	if len(l) > 8 {
		return nil, false
	}
	for _, p := range places {
		m[p] = true
	}
	return l, true
}

func (m model) give(l []api.Extent) bool {
	seen := map[int]bool{}
	for _, x := range l {
		if x.Count < 1 || x.Count > len(m) {
			return false
		}
		for i := range x.Count {
			// A First near the greatest int leaves its range here, and is below 0 then.
			p := x.First + i
			if p < 0 || p >= len(m) || !m[p] || seen[p] {
				return false
			}
			seen[p] = true
		}
	}
	for p := range seen {
		m[p] = false
	}
	return true
}

// patterned is a map of n blocks, of which those are in use whose bits a number has set.
func patterned(n, pattern int) model {
	m := make(model, n)
	for i := range m {
		m[i] = pattern>>i&1 == 1
	}
	return m
}

// numbers are such as come by chance, but are the same in each run.
type numbers uint64

func (r *numbers) below(n int) int {
	*r = *r*6364136223846793005 + 1442695040888963407
	return int(uint64(*r)>>33) % n
}

// ext is an extent.
func ext(first, count int) api.Extent { return api.Extent{First: first, Count: count} }

// made is a map of so many blocks.
func made(t *testing.T, n int) *Map {
	t.Helper()
	m, e := New(n)
	if m == nil || e != api.OK {
		t.Fatalf("New(%d) = %v, %v", n, m, e)
	}
	return m
}

// drawn is a map of which is drawn what is in use: x, or that it is not: a dot.
func drawn(t *testing.T, s string) *Map {
	t.Helper()
	var l model
	for i := range len(s) {
		l = append(l, s[i] == 'x')
	}
	m, e := Of(l.bits(), len(l))
	if m == nil || e != api.OK {
		t.Fatalf("Of(%q, %d) = %v, %v", l.bits(), len(l), m, e)
	}
	return m
}

// is holds all that a map tells of itself against a model.
func is(t *testing.T, what string, m *Map, l model) {
	t.Helper()
	if s := m.Bytes(); s != l.bits() {
		t.Fatalf("%s: Bytes() = %q; want %q", what, s, l.bits())
	}
	if n := m.Size(); n != len(l) {
		t.Fatalf("%s: Size() = %d; want %d", what, n, len(l))
	}
	if n := m.Used(); n != l.count(true) {
		t.Fatalf("%s: Used() = %d; want %d", what, n, l.count(true))
	}
}

// looks holds a map against what is drawn.
func looks(t *testing.T, what string, m *Map, s string) {
	t.Helper()
	want := drawn(t, s)
	if m.Bytes() != want.Bytes() || m.Size() != len(s) || m.Used() != strings.Count(s, "x") {
		t.Errorf("%s: %q, %d blocks, %d in use; want %s", what, m.Bytes(), m.Size(), m.Used(), s)
	}
}

// taken takes, and holds the answer against what is wanted; nothing: false.
func taken(t *testing.T, m *Map, n int, want ...api.Extent) {
	t.Helper()
	l, ok := m.Take(n)
	if ok != (len(want) > 0) || !slices.Equal(l, want) {
		t.Errorf("Take(%d) = %v, %v; want %v", n, l, ok, want)
	}
}

// given gives, and holds the answer against what is wanted.
func given(t *testing.T, m *Map, want bool, l ...api.Extent) {
	t.Helper()
	if ok := m.Give(l); ok != want {
		t.Errorf("Give(%v) = %v", l, ok)
	}
}

// The sentence ahead of the promises: a map that is none tells none, false, 0, nothing, nil, and stays one.
func TestNone(t *testing.T) {
	for name, m := range map[string]*Map{"nil": nil, "one that was not made": {}} {
		for range 2 {
			for _, n := range append([]int{0, 1, 8, 4096}, far...) {
				if l, ok := m.Take(n); l != nil || ok {
					t.Errorf("%s: Take(%d) = %v, %v", name, n, l, ok)
				}
			}
			for _, l := range [][]api.Extent{nil, {}, {ext(0, 1)}, {ext(0, 0)}, {ext(-1, 1)}, {ext(math.MaxInt, math.MaxInt)}} {
				if m.Give(l) {
					t.Errorf("%s: Give(%v)", name, l)
				}
			}
			if m.Used() != 0 || m.Size() != 0 || m.Bytes() != "" || m.Copy() != nil {
				t.Errorf("%s: %d in use of %d, %q, %v", name, m.Used(), m.Size(), m.Bytes(), m.Copy())
			}
		}
	}
}

// P8.1: New has so many blocks, none in use.
func TestNew(t *testing.T) {
	for n := 1; n <= 4096; n++ {
		is(t, fmt.Sprint("New of ", n), made(t, n), make(model, n))
	}
	for n, want := range map[int]int{1: 1, 7: 1, 8: 1, 9: 2, 16: 2, 17: 3, 4089: 512, 4096: 512} {
		if got := made(t, n).Bytes(); got != strings.Repeat("\x00", want) {
			t.Errorf("New(%d).Bytes() = %q", n, got)
		}
	}
}

// P8.1: New of a number that may not be.
func TestNewWrong(t *testing.T) {
	for _, n := range append([]int{0}, far...) {
		if m, e := New(n); m != nil || e != api.ErrArg {
			t.Errorf("New(%d) = %v, %v", n, m, e)
		}
	}
}

// P8.1: Of is the map whose bits these are: each one of one byte and of two, and some longer ones.
func TestOf(t *testing.T) {
	for n := 1; n <= 16; n++ {
		for pattern := range 1 << n {
			l := patterned(n, pattern)
			b := []byte{byte(pattern), byte(pattern >> 8)}[:(n+7)/8]
			m, e := Of(string(b), n)
			if m == nil || e != api.OK {
				t.Fatalf("Of(%q, %d) = %v, %v", b, n, m, e)
			}
			is(t, fmt.Sprintf("Of %q, %d", b, n), m, l)
		}
	}
	r := numbers(81)
	for _, n := range sizes {
		for share := range 4 {
			l := make(model, n)
			for i := range l {
				l[i] = r.below(4) < share
			}
			// The last block alone is told by the bit next to those that are none.
			l[n-1] = share > 1
			m, e := Of(l.bits(), n)
			if m == nil || e != api.OK {
				t.Fatalf("Of(%q, %d) = %v, %v", l.bits(), n, m, e)
			}
			is(t, fmt.Sprint("Of ", n), m, l)
		}
	}
}

// P8.1: Of tells ErrForm of a byte too few or too many, and of each bit that is set behind the last block; where n may not be, too, ErrArg.
func TestOfWrong(t *testing.T) {
	wrong := func(s string, n int, want api.Errno) {
		t.Helper()
		if m, e := Of(s, n); m != nil || e != want {
			t.Errorf("Of(%q, %d) = %v, %v; want %v", s, n, m, e, want)
		}
	}
	for n := 1; n <= 4096; n++ {
		width := (n + 7) / 8
		zeros := strings.Repeat("\x00", width+1)
		wrong(zeros[:width-1], n, api.ErrForm)
		wrong(zeros, n, api.ErrForm)
		for i := n; i < 8*width; i++ {
			b := []byte(zeros[:width])
			b[width-1] = 1 << (i % 8)
			wrong(string(b), n, api.ErrForm)
		}
	}
	for _, n := range sizes {
		wrong("", n, api.ErrForm)
		wrong(strings.Repeat("\x00", 4096), n, api.ErrForm)
		wrong(strings.Repeat("\xFF", (n+7)/8+1), n, api.ErrForm)
	}
	for _, n := range append([]int{0}, far...) {
		for _, s := range []string{"", "\x00", "\x01", "\xFF\xFF", strings.Repeat("\x00", 512), strings.Repeat("\xFF", 513)} {
			wrong(s, n, api.ErrArg)
		}
	}
}

// P8.1: a Copy is like the first one, and each goes on by itself.
func TestCopy(t *testing.T) {
	m := drawn(t, "xx.x..x...x.")
	c := m.Copy()
	if c == nil || c == m {
		t.Fatalf("Copy() = %v", c)
	}
	looks(t, "a copy", c, "xx.x..x...x.")
	taken(t, c, 2, ext(4, 2))
	looks(t, "the first one, behind a Take of the copy", m, "xx.x..x...x.")
	looks(t, "the copy", c, "xx.xxxx...x.")
	given(t, m, true, ext(0, 2))
	looks(t, "the first one", m, "...x..x...x.")
	looks(t, "the copy, behind a Give of the first one", c, "xx.xxxx...x.")
	taken(t, m, 4, ext(0, 3), ext(4, 1))
	given(t, c, true, ext(10, 1))
	looks(t, "the first one", m, "xxxxx.x...x.")
	looks(t, "the copy", c, "xx.xxxx.....")
	looks(t, "a copy of the copy", c.Copy(), "xx.xxxx.....")
	for _, n := range sizes {
		is(t, "a copy of an empty one", made(t, n).Copy(), make(model, n))
	}
}

// P8.2: Take of no number, of all that are free, and of one more.
func TestTakeBounds(t *testing.T) {
	for _, n := range sizes {
		m := made(t, n)
		for _, k := range append([]int{0, n + 1}, far...) {
			taken(t, m, k)
		}
		is(t, "behind Takes of false", m, make(model, n))
		taken(t, m, n, ext(0, n))
		is(t, "all in use", m, slices.Repeat(model{true}, n))
		for _, k := range append([]int{0, 1, n}, far...) {
			taken(t, m, k)
		}
		is(t, "all in use still", m, slices.Repeat(model{true}, n))
		given(t, m, true, ext(n-1, 1))
		taken(t, m, 2)
		taken(t, m, 1, ext(n-1, 1))
	}
}

// P8.2: Take of blocks that stand together, once or twice: the first such ones.
func TestTakeTogether(t *testing.T) {
	for _, x := range []struct {
		have string
		n    int
		want api.Extent
		then string
	}{
		{"...xx.x..x", 3, ext(0, 3), "xxxxx.x..x"},   // at the front
		{".x.x...x.x", 3, ext(4, 3), ".x.xxxxx.x"},   // in the middle
		{".x..x.x...", 3, ext(7, 3), ".x..x.xxxx"},   // at the end
		{"x...x...x.", 3, ext(1, 3), "xxxxx...x."},   // twice
		{"x..x....x.", 3, ext(4, 3), "x..xxxx.x."},   // in a longer one
		{"x....x...x", 3, ext(1, 3), "xxxx.x...x"},   // in a longer one, and in a fitting one behind it
		{".x........", 8, ext(2, 8), ".xxxxxxxxx"},   // all that stands at the end
		{"........x.", 8, ext(0, 8), "xxxxxxxxx."},   // one byte
		{"xxxxxxx..x", 2, ext(7, 2), "xxxxxxxxxx"},   // across two bytes
		{"xxxxxxxxx.", 1, ext(9, 1), "xxxxxxxxxx"},   // the last one
		{".xxxxxxxxx", 1, ext(0, 1), "xxxxxxxxxx"},   // the first one
		{"..........", 10, ext(0, 10), "xxxxxxxxxx"}, // all
	} {
		m := drawn(t, x.have)
		taken(t, m, x.n, x.want)
		looks(t, fmt.Sprint("behind Take of ", x.n, " of ", x.have), m, x.then)
	}
}

// P8.2: where they do not stand together: the lowest ones, as few extents as that makes, rising.
func TestTakeApart(t *testing.T) {
	for _, x := range []struct {
		have string
		n    int
		want []api.Extent
		then string
	}{
		{"..x..x", 3, []api.Extent{ext(0, 2), ext(3, 1)}, "xxxx.x"},
		{"..x..x", 4, []api.Extent{ext(0, 2), ext(3, 2)}, "xxxxxx"},
		{"x.x..x...", 4, []api.Extent{ext(1, 1), ext(3, 2), ext(6, 1)}, "xxxxxxx.."}, // not the longest ones
		{"x.x..x...", 6, []api.Extent{ext(1, 1), ext(3, 2), ext(6, 3)}, "xxxxxxxxx"},
		{"x.x.x.x.x.x.x.x.x", 8, []api.Extent{ext(1, 1), ext(3, 1), ext(5, 1), ext(7, 1), ext(9, 1), ext(11, 1), ext(13, 1), ext(15, 1)}, "xxxxxxxxxxxxxxxxx"},
		{".x.x.x.x.x.x.x...", 9, []api.Extent{ext(0, 1), ext(2, 1), ext(4, 1), ext(6, 1), ext(8, 1), ext(10, 1), ext(12, 1), ext(14, 2)}, "xxxxxxxxxxxxxxxx."},
		{".x.x.x.x.x.x.x...", 10, []api.Extent{ext(0, 1), ext(2, 1), ext(4, 1), ext(6, 1), ext(8, 1), ext(10, 1), ext(12, 1), ext(14, 3)}, "xxxxxxxxxxxxxxxxx"},
	} {
		m := drawn(t, x.have)
		taken(t, m, x.n, x.want...)
		looks(t, fmt.Sprint("behind Take of ", x.n, " of ", x.have), m, x.then)
	}
}

// P8.2: more than eight extents: false, and nothing changes; where they stand together further behind, that is one extent.
func TestTakeNine(t *testing.T) {
	for have, l := range map[string][]int{
		".x.x.x.x.x.x.x.x.":          {9},
		".x.x.x.x.x.x.x.x..":         {9, 10},
		"..x.x.x.x.x.x.x.x.x.......": {10, 11, 12, 16},
	} {
		m := drawn(t, have)
		for _, n := range l {
			taken(t, m, n)
			looks(t, fmt.Sprint("behind Take of ", n), m, have)
		}
	}
	m := drawn(t, ".x.x.x.x.x.x.x.x.x.........")
	taken(t, m, 9, ext(18, 9))
	taken(t, m, 9)
	looks(t, "behind both", m, ".x.x.x.x.x.x.x.x.xxxxxxxxxx")
	taken(t, m, 8, ext(0, 1), ext(2, 1), ext(4, 1), ext(6, 1), ext(8, 1), ext(10, 1), ext(12, 1), ext(14, 1))
}

// P8.2: the bits behind the last block are clear, but no blocks: nothing of them is taken.
func TestTakeLastByte(t *testing.T) {
	for n := 9; n <= 15; n++ {
		for free := 1; free <= 4; free++ {
			m := made(t, n)
			taken(t, m, n-free, ext(0, n-free))
			given(t, m, true, ext(0, 1))
			taken(t, m, free+1, ext(0, 1), ext(n-free, free))
			if m.Used() != n {
				t.Errorf("%d blocks, %d free at the end: %q", n, free, m.Bytes())
			}
			taken(t, m, 1)
		}
	}
}

// P8.3: Give of parts, of several Takes' extents, in any order, and of none.
func TestGive(t *testing.T) {
	m := made(t, 20)
	taken(t, m, 3, ext(0, 3))
	taken(t, m, 5, ext(3, 5))
	taken(t, m, 12, ext(8, 12))
	given(t, m, true)
	looks(t, "behind none", m, strings.Repeat("x", 20))
	given(t, m, true, ext(4, 2))
	looks(t, "behind a part", m, "xxxx..xxxxxxxxxxxxxx")
	given(t, m, true, ext(19, 1), ext(0, 1))
	looks(t, "behind the last and the first one", m, ".xxx..xxxxxxxxxxxxx.")
	given(t, m, true, ext(7, 4), ext(1, 3), ext(6, 1))
	looks(t, "behind parts of three Takes", m, "...........xxxxxxxx.")
	given(t, m, true, ext(18, 1), ext(11, 7))
	looks(t, "behind all", m, "....................")
	given(t, m, true)
	looks(t, "behind none", m, "....................")
}

// P8.3: Give of what may not be: false, and nothing changes, also where the last extent alone is wrong.
func TestGiveWrong(t *testing.T) {
	const have = "xxx.xxxxx.xxxxxxxxxx"
	m := drawn(t, have)
	wrong := [][]api.Extent{
		{ext(0, 0)}, {ext(0, -1)}, {ext(5, math.MinInt)}, {ext(math.MaxInt, math.MinInt)}, {ext(20, 0)}, {ext(2, -2)},
		{ext(-1, 1)}, {ext(-1, 2)}, {ext(-20, 25)}, {ext(math.MinInt, 1)}, {ext(math.MinInt, math.MaxInt)},
		{ext(20, 1)}, {ext(19, 2)}, {ext(10, 11)}, {ext(21, 1)}, {ext(23, 1)}, {ext(24, 1)}, {ext(4096, 1)}, {ext(math.MaxInt, 1)},
		{ext(0, math.MaxInt)}, {ext(1, math.MaxInt)}, {ext(19, math.MaxInt)}, {ext(math.MaxInt, math.MaxInt)}, {ext(math.MaxInt-3, 4)}, {ext(math.MaxInt-3, 10)},
		{ext(3, 1)}, {ext(9, 1)}, {ext(0, 4)}, {ext(3, 2)}, {ext(2, 3)}, {ext(0, 20)},
		{ext(1, 1), ext(1, 1)}, {ext(4, 3), ext(6, 2)}, {ext(6, 2), ext(4, 3)}, {ext(4, 5), ext(5, 1)}, {ext(10, 10), ext(0, 1), ext(19, 1)},
	}
	for _, l := range wrong {
		given(t, m, false, l...)
		looks(t, fmt.Sprint("behind Give of ", l), m, have)
		behind := append([]api.Extent{ext(15, 2), ext(14, 1)}, l...)
		given(t, m, false, behind...)
		looks(t, fmt.Sprint("behind Give of ", behind), m, have)
		ahead := append(slices.Clone(l), ext(17, 1))
		given(t, m, false, ahead...)
		looks(t, fmt.Sprint("behind Give of ", ahead), m, have)
	}
	given(t, m, true, ext(0, 3))
	given(t, m, false, ext(0, 3))
	given(t, m, false, ext(2, 1))
	looks(t, "behind the same Give twice", m, "....xxxxx.xxxxxxxxxx")
}

// P8.3: of each size the last block can be given back, and the one behind it is none, though its byte may have a bit for it.
func TestGiveLast(t *testing.T) {
	for _, n := range sizes {
		m := made(t, n)
		taken(t, m, n, ext(0, n))
		given(t, m, false, ext(n, 1))
		given(t, m, false, ext(n-1, 2))
		given(t, m, false, ext(0, n+1))
		is(t, "behind Gives of false", m, slices.Repeat(model{true}, n))
		given(t, m, true, ext(n-1, 1))
		given(t, m, false, ext(n-1, 1))
		given(t, m, n > 1, ext(0, max(n-1, 1)))
		is(t, "behind all", m, make(model, n))
	}
}

// P8.2, P8.3: each state of up to ten blocks, each Take, and each Give of two extents, as the document's words have it.
func TestEachState(t *testing.T) {
	for n := 1; n <= 10; n++ {
		for pattern := range 1 << n {
			l := patterned(n, pattern)
			for k := -1; k <= n+1; k++ {
				eachTake(t, l, k)
			}
			if n <= 5 {
				eachGive(t, l)
			}
		}
	}
}

func eachTake(t *testing.T, l model, k int) {
	t.Helper()
	m, _ := Of(l.bits(), len(l))
	words := slices.Clone(l)
	got, ok := m.Take(k)
	want, wantOk := words.take(k)
	if ok != wantOk || !slices.Equal(got, want) {
		t.Fatalf("%v: Take(%d) = %v, %v; want %v, %v", l, k, got, ok, want, wantOk)
	}
	is(t, fmt.Sprint(l, ": Take of ", k), m, words)
	if !ok {
		return
	}
	// P8.4: given back, all is as it was.
	given(t, m, true, got...)
	is(t, fmt.Sprint(l, ": given back ", got), m, l)
}

func eachGive(t *testing.T, l model) {
	t.Helper()
	var some []api.Extent
	for first := -1; first <= len(l); first++ {
		for count := range len(l) + 2 {
			some = append(some, ext(first, count))
		}
	}
	for _, x := range some {
		for _, y := range some {
			for _, give := range [][]api.Extent{{x}, {x, y}} {
				m, _ := Of(l.bits(), len(l))
				words := slices.Clone(l)
				if got, want := m.Give(give), words.give(give); got != want {
					t.Fatalf("%v: Give(%v) = %v", l, give, got)
				}
				is(t, fmt.Sprint(l, ": Give of ", give), m, words)
			}
		}
	}
}

// P8.2, P8.3, P8.4: many Takes and Gives, and Copies, on maps of all sizes, as the document's words have it.
func TestAsTheModel(t *testing.T) {
	r := numbers(84)
	for _, n := range sizes {
		m, l := made(t, n), make(model, n)
		var out []api.Extent
		for range 400 {
			switch r.below(5) {
			case 0, 1, 2:
				out = append(out, takeBoth(t, m, l, r.below(min(n, 1+n/6)+1))...)
			case 3:
				out = giveBoth(t, &r, m, l, out)
			case 4:
				m = same(t, &r, m)
			}
			is(t, fmt.Sprint("a map of ", n), m, l)
		}
	}
}

// takeBoth takes of both; P8.4: what is told was not in use, no block twice, and is so many.
func takeBoth(t *testing.T, m *Map, l model, k int) []api.Extent {
	t.Helper()
	ahead, was := slices.Clone(l), m.Used()
	got, ok := m.Take(k)
	if want, wantOk := l.take(k); ok != wantOk || !slices.Equal(got, want) {
		t.Fatalf("Take(%d) = %v, %v; want %v, %v", k, got, ok, want, wantOk)
	}
	seen := map[int]bool{}
	for _, x := range got {
		for i := range x.Count {
			p := x.First + i
			if ahead[p] || seen[p] {
				t.Fatalf("Take(%d) = %v: block %d", k, got, p)
			}
			seen[p] = true
		}
	}
	if ok && (len(seen) != k || m.Used() != was+k) || !ok && m.Used() != was {
		t.Fatalf("Take(%d) = %v, %v: %d in use behind %d", k, got, ok, m.Used(), was)
	}
	return got
}

// giveBoth gives some of what was taken back, and now and then what is wrong.
func giveBoth(t *testing.T, r *numbers, m *Map, l model, out []api.Extent) []api.Extent {
	t.Helper()
	if len(out) == 0 {
		return nil
	}
	k := r.below(min(len(out), 6)) + 1
	give := slices.Clone(out[len(out)-k:])
	out = out[:len(out)-k]
	if r.below(3) == 0 {
		give = append(give, ext(r.below(len(l)+2), r.below(3)))
	}
	for i := range give {
		j := r.below(i + 1)
		give[i], give[j] = give[j], give[i]
	}
	kept := slices.Clone(give)
	got := m.Give(give)
	if got != l.give(give) {
		t.Fatalf("Give(%v) = %v", give, got)
	}
	if !slices.Equal(give, kept) {
		t.Fatalf("Give(%v) made of it %v", kept, give)
	}
	return standing(l)
}

// standing is what is in use, as extents.
func standing(l model) []api.Extent {
	var out []api.Extent
	for i, on := range l {
		if on && (i%7 == 0 || i == 0 || !l[i-1]) {
			out = append(out, ext(i, 0))
		}
		if on {
			out[len(out)-1].Count++
		}
	}
	return out
}

// same is the same map, by its Copy, or by its bits (P8.4: of bits, and back).
func same(t *testing.T, r *numbers, m *Map) *Map {
	t.Helper()
	if r.below(2) == 0 {
		return m.Copy()
	}
	again, e := Of(m.Bytes(), m.Size())
	if again == nil || e != api.OK {
		t.Fatalf("Of(%q, %d) = %v, %v", m.Bytes(), m.Size(), again, e)
	}
	return again
}

// P8.4: what several Takes told, given back in one Give or in several, in any order: all is as it was.
func TestGivenBack(t *testing.T) {
	r := numbers(840)
	for _, have := range []string{strings.Repeat(".", 64), "x...xx.x....x.x.....xxxxxx..........x..x.......x...", strings.Repeat("x....", 60)} {
		for range 50 {
			m := drawn(t, have)
			var out []api.Extent
			for range 1 + r.below(6) {
				l, _ := m.Take(1 + r.below(9))
				out = append(out, l...)
			}
			for len(out) > 0 {
				k := 1 + r.below(len(out))
				slices.Reverse(out)
				given(t, m, true, out[:k]...)
				out = out[k:]
			}
			looks(t, "given back", m, have)
		}
	}
}

// R4: what Take told is the caller's own, and what Give was handed is not looked at later.
func TestLists(t *testing.T) {
	m := drawn(t, "..x..x....")
	l, _ := m.Take(5)
	if !slices.Equal(l, []api.Extent{ext(0, 2), ext(3, 2), ext(6, 1)}) {
		t.Errorf("Take(5) = %v", l)
	}
	for i := range l {
		l[i] = ext(-7, 99)
	}
	looks(t, "behind a list that was changed", m, "xxxxxxx...")
	give := []api.Extent{ext(0, 1), ext(3, 3)}
	given(t, m, true, give...)
	give[1] = ext(1, 1)
	looks(t, "behind another one", m, ".xx...x...")
	taken(t, m, 3, ext(3, 3))
	taken(t, m, 3, ext(7, 3))
	looks(t, "behind all", m, ".xxxxxxxxx")
}

// R2: what one map is asked changes no other one.
func TestOthers(t *testing.T) {
	m, other := made(t, 12), made(t, 12)
	s := m.Bytes()
	taken(t, m, 5, ext(0, 5))
	looks(t, "the other one", other, "............")
	taken(t, other, 12, ext(0, 12))
	looks(t, "the first one", m, "xxxxx.......")
	if s != "\x00\x00" {
		t.Errorf("what Bytes told is %q now", s)
	}
	// A copy of the value is the same map.
	value := *m
	taken(t, &value, 2, ext(5, 2))
	looks(t, "the map, behind a Take of its value", m, "xxxxxxx.....")
}

// The document's examples.
func TestExamples(t *testing.T) {
	m := made(t, 8)
	taken(t, m, 3, ext(0, 3))
	taken(t, m, 2, ext(3, 2))
	given(t, m, true, ext(0, 3))
	given(t, m, false, ext(0, 3))
	taken(t, m, 5, ext(0, 3), ext(5, 2))
	taken(t, m, 2)
	taken(t, m, 1, ext(7, 1))
	looks(t, "all of it", m, "xxxxxxxx")
}
