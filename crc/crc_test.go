package crc

import (
	"hash/crc32"
	"strings"
	"testing"
)

// bitwise goes through the bits by the words of the document: the lowest of each byte first, a step with each.
func bitwise(n uint32, s string) uint32 {
	for i := range len(s) {
		for place := range 8 {
			n ^= uint32(s[i] >> place & 1)
			out := n & 1
			n >>= 1
			if out == 1 {
				n ^= 0xEDB88320
			}
		}
	}
	return n
}

// sumOf is the CRC-32 by the words of the document.
func sumOf(s string) uint32 {
	return bitwise(0xFFFFFFFF, s) ^ 0xFFFFFFFF
}

// mixed is a text of so many bytes, unlike for each seed.
func mixed(size int, seed uint32) string {
	b := make([]byte, size)
	n := seed*2654435761 + 12345
	for i := range b {
		n = n*1664525 + 1013904223
		b[i] = byte(n >> 24)
	}
	return string(b)
}

// allBytes is a text that has each byte once, rising.
func allBytes() string {
	b := make([]byte, 256)
	for i := range b {
		b[i] = byte(i)
	}
	return string(b)
}

// texts are some of none, of a few bytes, of all bytes, of a sector, and about it.
func texts() []string {
	l := []string{
		"", "\x00", "\x01", "\x80", "\xFF", "a", "abc", "1234", "123456789", "lighter, the images",
		"\x00\x00\x00\x00", "\xFF\xFF\xFF\xFF", "\xFF\xFF\xFF\xFF\xFF", "\x00\x00\x00\x00\x01", "\x01\x00\x00\x00\x00",
		"\u00e4\u00f6\u20ac",   // of more than one byte a rune
		"\xC3", "\x80\xC3\x28", // no runes at all
		allBytes(), strings.Repeat("\x00", 512), strings.Repeat("\xFF", 512),
	}
	for size := range 20 {
		l = append(l, mixed(size, uint32(size)))
	}
	for _, size := range []int{255, 256, 257, 511, 512, 513} {
		l = append(l, mixed(size, uint32(size)))
	}
	return l
}

// numbers are those about the edges of 32 bits, each power of two, and some more.
func numbers() []uint32 {
	l := []uint32{
		0, 2, 3, 0xFFFFFFFF, 0xFFFFFFFE, 0x7FFFFFFF, 0x80000001, 0xEDB88320, 0x12477CDF,
		0xCBF43926, 0x340BC6D9, 0xDEBB20E3, 0x2144DF1C, 0xFF, 0xFF00, 0xFF0000, 0xFF000000, 0x00FFFFFF, 0x12345678, 0xA5A5A5A5,
	}
	for i := range 32 {
		l = append(l, 1<<i)
	}
	return l
}

// P3.1: Sum of texts whose sums are known from elsewhere, the document's examples among them.
func TestSumKnown(t *testing.T) {
	for _, x := range []struct {
		s    string
		want uint32
	}{
		{"", 0},
		{"123456789", 0xCBF43926},
		{"a", 0xE8B7BE43},
		{"abc", 0x352441C2},
		{"\x00", 0xD202EF8D},
		{"\xFF", 0xFF000000},
		{"\xFF\xFF\xFF\xFF", 0xFFFFFFFF},
		{"\x00\x00\x00\x00", 0x2144DF1C},
		{"The quick brown fox jumps over the lazy dog", 0x414FA339},
		{strings.Repeat("\x00", 32), 0x190A55AD},
		{strings.Repeat("\xFF", 32), 0xFF6CAB0B},
		{allBytes()[:32], 0x91267E8A},
	} {
		if n := Sum(x.s); n != x.want {
			t.Errorf("Sum(%q) = %X; want %X", x.s, n, x.want)
		}
		if n := sumOf(x.s); n != x.want {
			t.Errorf("bit by bit %q comes to %X; want %X", x.s, n, x.want)
		}
	}
}

// P3.1: Sum of nothing, of some bytes and of many, bit by bit.
func TestSum(t *testing.T) {
	for _, s := range texts() {
		if n, want := Sum(s), sumOf(s); n != want {
			t.Errorf("Sum(%q) = %X; want %X", s, n, want)
		}
	}
}

// P3.1: Sum of each one byte, and of each one behind, and ahead of, another one.
func TestSumOfEachByte(t *testing.T) {
	for b := range 256 {
		one := string([]byte{byte(b)})
		for _, s := range []string{one, "\x00" + one, one + "\x00", "\xFF" + one, one + "\xFF", one + one} {
			if n, want := Sum(s), sumOf(s); n != want {
				t.Errorf("Sum(%q) = %X; want %X", s, n, want)
			}
		}
	}
}

// P3.1: Sum of many bytes, held against the library's, too.
func TestSumOfMany(t *testing.T) {
	for _, size := range []int{4095, 4096, 65535, 65536, 65537, 1 << 20} {
		for _, s := range []string{mixed(size, 7), strings.Repeat("\x00", size), strings.Repeat("\xFF", size)} {
			n := Sum(s)
			if want := sumOf(s); n != want {
				t.Errorf("Sum of %d bytes is %X; want %X", size, n, want)
			}
			if want := crc32.ChecksumIEEE([]byte(s)); n != want {
				t.Errorf("Sum of %d bytes is %X; the library has %X", size, n, want)
			}
		}
	}
}

// P3.1: More of any number, and any text, bit by bit.
func TestMore(t *testing.T) {
	for _, c := range numbers() {
		for _, s := range texts() {
			if n, want := More(c, s), bitwise(c^0xFFFFFFFF, s)^0xFFFFFFFF; n != want {
				t.Errorf("More(%X, %q) = %X; want %X", c, s, n, want)
			}
		}
	}
}

// P3.1: More of any number and one byte, whichever it is.
func TestMoreOfEachByte(t *testing.T) {
	for _, c := range numbers() {
		for b := range 256 {
			s := string([]byte{byte(b)})
			if n, want := More(c, s), bitwise(c^0xFFFFFFFF, s)^0xFFFFFFFF; n != want {
				t.Errorf("More(%X, %q) = %X; want %X", c, s, n, want)
			}
		}
	}
}

// Ways: the table has for each byte what its eight steps, of 0, come to, and stays so, whatever is asked.
func TestStepsStandInATable(t *testing.T) {
	for _, s := range texts() {
		More(0xFFFFFFFF, s)
	}
	if len(steps) != 256 {
		t.Fatalf("%d bytes", len(steps))
	}
	for b, n := range steps {
		if want := bitwise(0, string([]byte{byte(b)})); n != want {
			t.Errorf("of byte %d: %X; want %X", b, n, want)
		}
	}
}

// P3.1: no answer hangs on what stands in the table.
func TestAnswersWithoutTheTable(t *testing.T) {
	was := steps
	defer func() { steps = was }()
	clear(steps[:])
	for _, s := range texts() {
		if n, want := Sum(s), sumOf(s); n != want {
			t.Errorf("Sum(%q) = %X; want %X", s, n, want)
		}
		if n, want := More(0x12345678, s), bitwise(0xEDCBA987, s)^0xFFFFFFFF; n != want {
			t.Errorf("More(12345678, %q) = %X; want %X", s, n, want)
		}
	}
}

// P3.1: More of any number and nothing is that number.
func TestMoreOfNothing(t *testing.T) {
	for _, c := range numbers() {
		if n := More(c, ""); n != c {
			t.Errorf("More(%X, nothing) = %X", c, n)
		}
	}
}

// bytesOf is the one text of four bytes whose CRC-32 is c: 32 steps are gone back to what leads there, and that is FFFFFFFF xor the text.
func bytesOf(c uint32) string {
	n := c ^ 0xFFFFFFFF
	for range 32 {
		// Of the two that a step may have come from, one alone has the highest bit that was turned over.
		if n>>31 == 1 {
			n = (n^0xEDB88320)<<1 | 1
		} else {
			n <<= 1
		}
	}
	n ^= 0xFFFFFFFF
	return string([]byte{byte(n), byte(n >> 8), byte(n >> 16), byte(n >> 24)})
}

// P3.1: each number is the CRC-32 of some bytes, and More of it is that of these bytes and what comes behind.
func TestMoreIsOfBytes(t *testing.T) {
	for _, c := range numbers() {
		first := bytesOf(c)
		if sumOf(first) != c {
			t.Fatalf("%q has %X; want %X", first, sumOf(first), c)
		}
		for _, s := range texts() {
			n := More(c, s)
			if want := sumOf(first + s); n != want {
				t.Errorf("More(%X, %q) = %X; want %X", c, s, n, want)
			}
			if m := Sum(first + s); m != n {
				t.Errorf("Sum(%q and %q) = %X; More has %X", first, s, m, n)
			}
		}
	}
}

// P3.1, R2: an answer hangs on nothing that was asked ahead.
func TestAskedAgain(t *testing.T) {
	l := texts()
	var first []uint32
	for _, s := range l {
		first = append(first, Sum(s))
	}
	for i := len(l) - 1; i >= 0; i-- {
		More(0xFFFFFFFF, l[i])
		if n := Sum(l[i]); n != first[i] {
			t.Errorf("Sum(%q) = %X; at first %X", l[i], n, first[i])
		}
	}
}

// P3.2: a text that is parted at each place, also into nothing and all of it.
func TestParted(t *testing.T) {
	for _, s := range texts() {
		want := Sum(s)
		for i := range len(s) + 1 {
			if n := More(Sum(s[:i]), s[i:]); n != want {
				t.Errorf("%q, parted at %d: %X; want %X", s, i, n, want)
			}
		}
	}
}

// P3.2: two texts, one behind the other, whichever these are.
func TestTwoTexts(t *testing.T) {
	for _, a := range texts() {
		for _, b := range texts() {
			n := More(Sum(a), b)
			if m := Sum(a + b); m != n {
				t.Errorf("Sum(%q and %q) = %X; More has %X", a, b, m, n)
			}
			if want := sumOf(a + b); n != want {
				t.Errorf("%q and %q: %X; want %X", a, b, n, want)
			}
		}
	}
}

// P3.2: a text in three parts, and byte by byte.
func TestManyParts(t *testing.T) {
	for _, s := range []string{"123456789", mixed(20, 3), "\x00\x00\x00\x00\x00\x00", "\xFF\xFF\xFF\xFF\xFF\xFF"} {
		want := sumOf(s)
		for i := range len(s) + 1 {
			for j := i; j <= len(s); j++ {
				if n := More(More(Sum(s[:i]), s[i:j]), s[j:]); n != want {
					t.Errorf("%q, parted at %d and %d: %X; want %X", s, i, j, n, want)
				}
			}
		}
		n := uint32(0)
		for i := range len(s) {
			n = More(n, s[i:i+1])
		}
		if n != want {
			t.Errorf("%q, byte by byte: %X; want %X", s, n, want)
		}
	}
}

// turnedOver is s, with the bits of pattern turned over from the bit at on; false, if s has not all of those that are 1.
func turnedOver(s string, at int, pattern uint32) (string, bool) {
	b := []byte(s)
	for i := range 32 {
		if pattern>>i&1 == 0 {
			continue
		}
		if at+i >= 8*len(b) {
			return "", false
		}
		b[(at+i)/8] ^= 1 << ((at + i) % 8)
	}
	return string(b), true
}

// patterns are differences of up to 32 bits that stand together, the first of them 1: all of up to ten, and of up to 32 such as are sparse, dense, CRC-32's own, or mixed.
func patterns() []uint32 {
	var l []uint32
	for n := uint32(1); n < 1<<10; n += 2 {
		l = append(l, n)
	}
	for i := 1; i < 32; i++ {
		l = append(l, 1|1<<i, 1<<(i+1)-1, 0xFFFFFFFF&^(1<<i))
		for j := 1; j < i; j++ {
			l = append(l, 1|1<<j|1<<i)
		}
	}
	l = append(l, 0xEDB88321, 0xDB710641, 0x04C11DB7, 0x80000001, 0x55555555, 0xAAAAAAAB)
	n := uint32(1)
	for range 300 {
		n = n*1664525 + 1013904223
		l = append(l, n^n>>16|1)
	}
	return l
}

// P3.2: two texts that differ in bits that stand together, at each place of a byte and of the text, the first and the last one too.
func TestBitsThatStandTogether(t *testing.T) {
	for _, s := range []string{"\x00", "\xFF", "a", "1234", "12345", "123456789", strings.Repeat("\x00", 8), strings.Repeat("\xFF", 8), mixed(12, 1)} {
		was := Sum(s)
		for at := range 8 * len(s) {
			for _, p := range patterns() {
				other, ok := turnedOver(s, at, p)
				if ok && Sum(other) == was {
					t.Errorf("%q and %q (from bit %d on, %X): both %X", s, other, at, p, was)
				}
			}
		}
	}
}

// P3.2: the same in a text of a sector, about its first and its last bits, and amid them.
func TestBitsThatStandTogetherInASector(t *testing.T) {
	s := mixed(512, 5)
	was := Sum(s)
	var places []int
	for i := range 33 {
		places = append(places, i, 2048+i, 8*512-1-i)
	}
	for _, at := range places {
		for _, p := range patterns() {
			other, ok := turnedOver(s, at, p)
			if ok && Sum(other) == was {
				t.Errorf("from bit %d on, %X: both %X", at, p, was)
			}
		}
	}
}

// P3.2: in one text, no two of the 65536 pairs of bytes at a place have one sum.
func TestTwoBytesThatDiffer(t *testing.T) {
	for _, at := range []int{0, 1, 5, 7} {
		seen := map[uint32]int{}
		for n := range 1 << 16 {
			b := []byte("123456789")
			b[at], b[at+1] = byte(n), byte(n>>8)
			c := Sum(string(b))
			if m, ok := seen[c]; ok {
				t.Fatalf("%X and %X at %d: both %X", m, n, at, c)
			}
			seen[c] = n
		}
	}
}

// rank is how many of the numbers no xor of others of them comes to.
func rank(l []uint32) int {
	n := 0
	for place := 31; place >= 0; place-- {
		at := -1
		for i := n; i < len(l); i++ {
			if l[i]>>place&1 == 1 {
				at = i
			}
		}
		if at < 0 {
			continue
		}
		l[n], l[at] = l[at], l[n]
		for i := n + 1; i < len(l); i++ {
			if l[i]>>place&1 == 1 {
				l[i] ^= l[n]
			}
		}
		n++
	}
	return n
}

// P3.2: of all 2^32 differences of 32 bits that stand together none comes to nothing: as steps are xors alone, a difference of several bits comes to the xor of what each one comes to, so these need to have the rank 32.
func TestAllDifferencesOf32Bits(t *testing.T) {
	s := mixed(40, 9)
	was := Sum(s)
	for at := 0; at+32 <= 8*len(s); at++ {
		var single []uint32
		for i := range 32 {
			other, _ := turnedOver(s, at, 1<<i)
			single = append(single, Sum(other)^was)
		}
		for _, p := range patterns() {
			all := uint32(0)
			for i := range 32 {
				if p>>i&1 == 1 {
					all ^= single[i]
				}
			}
			other, _ := turnedOver(s, at, p)
			if n := Sum(other) ^ was; n != all {
				t.Errorf("from bit %d on, %X: %X; its bits come to %X", at, p, n, all)
			}
		}
		if n := rank(single); n != 32 {
			t.Errorf("from bit %d on: rank %d", at, n)
		}
	}
}
