package bits

import (
	"math"
	"strings"
	"testing"
)

// far are places, sizes and lengths that no text has.
var far = []int{math.MinInt, math.MinInt + 1, -1 << 32, -9, -8, -7, -1, 1 << 32, math.MaxInt - 7, math.MaxInt - 1, math.MaxInt}

// numbers are such whose bytes are all unlike, and those about the bounds of each size.
func numbers() []uint64 {
	l := []uint64{0x0102030405060708, 0xF1E2D3C4B5A69788, 0x8000000000000080, 258, 513}
	for size := 0; size <= 8; size++ {
		edge := uint64(0)
		if size < 8 {
			edge = 1 << (8 * size)
		}
		l = append(l, edge-1, edge, edge+1)
	}
	return l
}

// texts are all of one byte, and some of none, of two, of eight and of more.
func texts() []string {
	l := []string{
		"", "\x00\x00", "\xFF\xFF", "\xFF\x00", "\x00\xFF", "\xFF\x01", "\x05\x80", "\x80\x01", "\x7F\xFE", "\x0F\xF0", "\xFE\xFF\x7F", "\xFF\x00\xFF", "\x11\x00\x10",
		"\x01\x02\x04\x08\x10\x20\x40\x80", "\x00\x00\x00\x00\x00\x00\x00\x00", "\xFF\xFF\xFF\xFF\xFF\xFF\xFF\xFF\xFF", "lighter, the images",
		"\u00e4\u00f6", // of more than one byte a rune
	}
	for b := range 256 {
		l = append(l, string([]byte{byte(b)}))
	}
	return l
}

// bitsOf tells the bits by the words of the document: that of the byte i / 8 whose weight is 2 to the i modulo 8.
func bitsOf(s string) []bool {
	l := make([]bool, 8*len(s))
	for i := range l {
		weight := 1
		for range i % 8 {
			weight *= 2
		}
		l[i] = int(s[i/8])/weight%2 == 1
	}
	return l
}

// P2.1: Put of numbers of all sizes, and of sizes that may not be.
func TestPut(t *testing.T) {
	for _, x := range []struct {
		n    uint64
		size int
		want string
	}{
		{258, 3, "\x02\x01\x00"},
		{258, 2, "\x02\x01"},
		{258, 1, "\x02"},
		{0, 1, "\x00"}, {0, 8, "\x00\x00\x00\x00\x00\x00\x00\x00"},
		{255, 1, "\xFF"}, {256, 1, "\x00"}, {256, 2, "\x00\x01"},
		{0x0102030405060708, 8, "\x08\x07\x06\x05\x04\x03\x02\x01"},
		{0x0102030405060708, 7, "\x08\x07\x06\x05\x04\x03\x02"},
		{0x0102030405060708, 4, "\x08\x07\x06\x05"},
		{1 << 63, 8, "\x00\x00\x00\x00\x00\x00\x00\x80"}, {1 << 63, 7, "\x00\x00\x00\x00\x00\x00\x00"},
		{math.MaxUint64, 8, "\xFF\xFF\xFF\xFF\xFF\xFF\xFF\xFF"}, {math.MaxUint64, 5, "\xFF\xFF\xFF\xFF\xFF"},
		{258, 0, ""}, {258, -1, ""}, {258, 9, ""}, {258, 16, ""}, {0, 0, ""}, {math.MaxUint64, 9, ""},
	} {
		if s := Put(x.n, x.size); s != x.want {
			t.Errorf("Put(%d, %d) = %q; want %q", x.n, x.size, s, x.want)
		}
	}
	for _, size := range far {
		if s := Put(258, size); s != "" {
			t.Errorf("Put(258, %d) = %q", size, s)
		}
	}
}

// P2.1: Put of each size, held against a division byte by byte.
func TestPutBytes(t *testing.T) {
	for _, n := range numbers() {
		for size := 1; size <= 8; size++ {
			s := Put(n, size)
			if len(s) != size {
				t.Fatalf("Put(%d, %d) has %d bytes", n, size, len(s))
			}
			for i, rest := 0, n; i < size; i, rest = i+1, rest/256 {
				if uint64(s[i]) != rest%256 {
					t.Errorf("Put(%d, %d) = %q: byte %d", n, size, s, i)
				}
			}
		}
	}
}

// P2.1: Get of texts of none, of up to eight and of more bytes.
func TestGet(t *testing.T) {
	for _, x := range []struct {
		s    string
		want uint64
	}{
		{"", 0},
		{"\x01\x02", 513}, {"\x02\x01", 258}, {"\x02\x01\x00", 258},
		{"\x00", 0}, {"\xFF", 255}, {"\x00\x01", 256},
		{"\xE4", 0xE4}, {"\u00e4", 0xA4C3}, // bytes, not runes
		{"\x01\x02\x03\x04\x05", 0x0504030201},
		{"\x07\x06\x05\x04\x03\x02\x01", 0x01020304050607},
		{"\x08\x07\x06\x05\x04\x03\x02\x01", 0x0102030405060708},
		{"\xFF\xFF\xFF\xFF\xFF\xFF\xFF\xFF", math.MaxUint64},
		{"\x00\x00\x00\x00\x00\x00\x00\x80", 1 << 63},
		{"\x08\x07\x06\x05\x04\x03\x02\x01\xFF", 0x0102030405060708},
		{"\x00\x00\x00\x00\x00\x00\x00\x00\x01", 0},
		{"\x01" + strings.Repeat("\x00", 7) + strings.Repeat("\xFF", 1000), 1},
	} {
		if n := Get(x.s); n != x.want {
			t.Errorf("Get(%q) = %d; want %d", x.s, n, x.want)
		}
	}
}

// P2.2: the bits of the document's example, the first place, the last one, and those beside them.
func TestHas(t *testing.T) {
	for _, x := range []struct {
		s    string
		i    int
		want bool
	}{
		{"\x04", 2, true}, {"\x04", 1, false}, {"\x04", 3, false},
		{"\x01", 0, true}, {"\x01", 7, false}, {"\x80", 7, true}, {"\x80", 0, false},
		{"\xFF", -1, false}, {"\xFF", 8, false},
		{"\x00\x01", 8, true}, {"\x00\x01", 0, false}, {"\x00\x80", 15, true}, {"\xFF\xFF", 16, false}, {"\xFF\xFF", -1, false},
		{"", 0, false}, {"", -1, false}, {"", 7, false},
	} {
		if on := Has(x.s, x.i); on != x.want {
			t.Errorf("Has(%q, %d) = %t", x.s, x.i, on)
		}
	}
}

// P2.2: each bit of each text, and places that no text has.
func TestHasEachBit(t *testing.T) {
	for _, s := range texts() {
		l := bitsOf(s)
		for i := -17; i < len(l)+17; i++ {
			if want := i >= 0 && i < len(l) && l[i]; Has(s, i) != want {
				t.Errorf("Has(%q, %d) = %t", s, i, !want)
			}
		}
		for _, i := range far {
			if Has(s, i) {
				t.Errorf("Has(%q, %d)", s, i)
			}
		}
	}
}

// P2.2: a bit that is set, or made clear, at the first place, the last one, and beside them.
func TestWith(t *testing.T) {
	for _, x := range []struct {
		s    string
		i    int
		on   bool
		want string
	}{
		{"\x00", 9, true, "\x00"}, {"\x00", 9, false, "\x00"},
		{"\x00", 0, true, "\x01"}, {"\x00", 7, true, "\x80"}, {"\x00", 8, true, "\x00"}, {"\x00", -1, true, "\x00"},
		{"\xFF", 0, false, "\xFE"}, {"\xFF", 7, false, "\x7F"}, {"\xFF", 8, false, "\xFF"}, {"\xFF", -1, false, "\xFF"},
		{"\x04", 2, true, "\x04"}, {"\x04", 1, false, "\x04"}, {"\x04", 2, false, "\x00"},
		{"\x05\x80", 1, true, "\x07\x80"}, {"\x05\x80", 15, false, "\x05\x00"}, {"\x05\x80", 8, true, "\x05\x81"}, {"\x05\x80", 16, true, "\x05\x80"},
		{"abc", 8, true, "acc"}, {"abc", 9, false, "a`c"}, {"abc", 23, true, "ab\xE3"},
		{"", 0, true, ""}, {"", 0, false, ""}, {"", -1, true, ""}, {"", 7, true, ""},
	} {
		if s := With(x.s, x.i, x.on); s != x.want {
			t.Errorf("With(%q, %d, %t) = %q; want %q", x.s, x.i, x.on, s, x.want)
		}
	}
}

// P2.2: where there is no bit, a text is what it was.
func TestWithBeyond(t *testing.T) {
	for _, s := range texts() {
		for _, i := range append([]int{8 * len(s), 8*len(s) + 1, 8*len(s) + 8}, far...) {
			if a, b := With(s, i, true), With(s, i, false); a != s || b != s {
				t.Errorf("With(%q, %d) = %q, %q", s, i, a, b)
			}
		}
	}
}

// P2.2: how many bits are set.
func TestCount(t *testing.T) {
	for _, x := range []struct {
		s    string
		want int
	}{
		{"", 0}, {"\x00", 0}, {"\xFF\x01", 9}, {"\x05\x80", 3}, {"\x01", 1}, {"\x80", 1}, {"\xFF", 8},
		{strings.Repeat("\xFF", 512), 4096}, {strings.Repeat("\x00", 512), 0}, {strings.Repeat("\x00", 511) + "\x80", 1},
	} {
		if n := Count(x.s); n != x.want {
			t.Errorf("Count(%q) = %d; want %d", x.s, n, x.want)
		}
	}
	for _, s := range texts() {
		want := 0
		for _, on := range bitsOf(s) {
			if on {
				want++
			}
		}
		if n := Count(s); n != want {
			t.Errorf("Count(%q) = %d; want %d", s, n, want)
		}
	}
}

// P2.3: the document's examples, runs of 0, of all and of one more, starts below 0 and beyond the end.
func TestRun(t *testing.T) {
	for _, x := range []struct {
		s             string
		from, n, want int
	}{
		{"\x03", 0, 2, 2}, {"\x03", 0, 7, -1}, {"\x03", 7, 1, 7},
		{"\x03", 0, 6, 2}, {"\x03", 2, 6, 2}, {"\x03", 3, 6, -1}, {"\x03", 3, 5, 3},
		{"\x03", 0, 0, -1}, {"\x03", 0, -1, -1}, {"\x00", 0, 0, -1}, {"\x00", 3, -7, -1},
		{"\x00", 0, 8, 0}, {"\x00", 0, 9, -1}, {"\x00", 1, 8, -1}, {"\x00\x00", 0, 16, 0}, {"\x00\x00", 0, 17, -1},
		{"\x03", -1, 2, 2}, {"\x00", -5, 8, 0}, {"\x00", -5, 9, -1}, {"\x02", -5, 1, 0}, {"\x02", -5, 2, 2},
		{"\x00", 7, 1, 7}, {"\x00", 8, 1, -1}, {"\x00", 9, 1, -1}, {"\x00", 7, 2, -1}, {"\x80", 7, 1, -1},
		{"\xFF", 0, 1, -1}, {"\xFF\x7F", 0, 1, 15}, {"\xFF\xFF", 0, 1, -1},
		{"", 0, 1, -1}, {"", 0, 0, -1}, {"", -1, 1, -1}, {"", 5, 1, -1},
		{"\x0F\xF0", 0, 8, 4}, {"\x0F\xF0", 0, 9, -1}, {"\x0F\xF0", 6, 6, 6}, {"\x0F\xF0", 6, 7, -1},
		{"\x11\x00\x10", 0, 3, 1}, {"\x11\x00\x10", 0, 4, 5}, {"\x11\x00\x10", 0, 15, 5}, {"\x11\x00\x10", 0, 16, -1}, {"\x11\x00\x10", 4, 1, 5}, {"\x11\x00\x10", 18, 3, 21},
	} {
		if at := Run(x.s, x.from, x.n); at != x.want {
			t.Errorf("Run(%q, %d, %d) = %d; want %d", x.s, x.from, x.n, at, x.want)
		}
	}
}

// P2.3: lengths and starts at the edges of the integers' range.
func TestRunFar(t *testing.T) {
	for _, s := range []string{"", "\x00", "\x03", "\xFF", "\x00\x00\x00"} {
		for _, far := range []int{math.MaxInt, math.MaxInt - 1, 1 << 62, 1 << 32} {
			for _, n := range []int{1, 8, far} {
				if at := Run(s, far, n); at != -1 {
					t.Errorf("Run(%q, %d, %d) = %d", s, far, n, at)
				}
			}
			for _, from := range []int{math.MinInt, -1, 0, 1} {
				if at := Run(s, from, far); at != -1 {
					t.Errorf("Run(%q, %d, %d) = %d", s, from, far, at)
				}
			}
		}
		for _, from := range []int{math.MinInt, math.MinInt + 1, -1 << 32} {
			if at, want := Run(s, from, 1), Run(s, 0, 1); at != want {
				t.Errorf("Run(%q, %d, 1) = %d; want %d", s, from, at, want)
			}
			if at := Run(s, 0, from); at != -1 {
				t.Errorf("Run(%q, 0, %d) = %d", s, from, at)
			}
		}
	}
}

// firstRun looks at each place by the words of the document.
func firstRun(l []bool, from, n int) int {
	for at := max(from, 0); at+n <= len(l) && n >= 1; at++ {
		clear := true
		for _, on := range l[at : at+n] {
			clear = clear && !on
		}
		if clear {
			return at
		}
	}
	return -1
}

// P2.3: each start and each length, in each text.
func TestRunEach(t *testing.T) {
	for _, s := range texts() {
		l := bitsOf(s)
		for from := -2; from <= len(l)+2; from++ {
			for n := -1; n <= len(l)+2; n++ {
				if at, want := Run(s, from, n), firstRun(l, from, n); at != want {
					t.Errorf("Run(%q, %d, %d) = %d; want %d", s, from, n, at, want)
				}
			}
		}
	}
}

// P2.4: what is put is got: as much of a number as its size holds.
func TestPutIsGot(t *testing.T) {
	for _, n := range numbers() {
		for size := 1; size <= 8; size++ {
			want := n
			if size < 8 {
				want %= 1 << (8 * size)
			}
			if m := Get(Put(n, size)); m != want {
				t.Errorf("Get(Put(%d, %d)) = %d; want %d", n, size, m, want)
			}
		}
	}
}

// P2.4: what is got is put: of up to eight bytes all, of more the first eight.
func TestGotIsPut(t *testing.T) {
	for _, s := range texts() {
		size := min(len(s), 8)
		if p := Put(Get(s), size); p != s[:size] {
			t.Errorf("Put(Get(%q), %d) = %q", s, size, p)
		}
	}
}

// P2.4: a bit that is set is one more, one that is made clear is one less, and no other one changes.
func TestOneBitChanges(t *testing.T) {
	for _, s := range texts() {
		l := bitsOf(s)
		for i := range l {
			for _, on := range []bool{true, false} {
				a := With(s, i, on)
				if len(a) != len(s) {
					t.Fatalf("With(%q, %d, %t) = %q", s, i, on, a)
				}
				want := Count(s)
				if on && !l[i] {
					want++
				}
				if !on && l[i] {
					want--
				}
				if n := Count(a); n != want {
					t.Errorf("Count(With(%q, %d, %t)) = %d; want %d", s, i, on, n, want)
				}
				for j, was := range l {
					if j == i {
						was = on
					}
					if Has(a, j) != was {
						t.Errorf("With(%q, %d, %t) = %q: bit %d", s, i, on, a, j)
					}
				}
			}
		}
	}
}

// P2.4: a run that is set is found no more: what is found next lies behind it, till there is none.
func TestRunThatIsSet(t *testing.T) {
	for _, s := range texts() {
		for n := 1; n <= 8*len(s)+1; n++ {
			last := -n
			for a, at := s, Run(s, 0, n); at >= 0; at = Run(a, 0, n) {
				if at < last+n || at+n > 8*len(s) {
					t.Fatalf("Run(%q, 0, %d) = %d, behind %d", a, n, at, last)
				}
				before := Count(a)
				for i := range n {
					a = With(a, at+i, true)
				}
				if Count(a) != before+n {
					t.Errorf("%q: %d more bits", a, Count(a)-before)
				}
				last = at
			}
		}
	}
}
