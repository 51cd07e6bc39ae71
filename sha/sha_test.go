package sha

import (
	"crypto/sha256"
	"encoding/hex"
	"math/big"
	"strings"
	"testing"

	"lighter/api"
)

// primes are the first so many.
func primes(count int) []int64 {
	var l []int64
	for n := int64(2); len(l) < count; n++ {
		prime := true
		for _, p := range l {
			prime = prime && n%p != 0
		}
		if prime {
			l = append(l, n)
		}
	}
	return l
}

// fraction is the first 32 bits of the fraction of n's root of a degree: the greatest number whose power is not above n, all moved up by 32 bits.
func fraction(n, degree int64) uint32 {
	most := new(big.Int).Lsh(big.NewInt(n), uint(32*degree))
	root := new(big.Int)
	for i := 42; i >= 0; i-- {
		more := new(big.Int).SetBit(root, i, 1)
		if new(big.Int).Exp(more, big.NewInt(degree), nil).Cmp(most) <= 0 {
			root = more
		}
	}
	return uint32(root.Uint64())
}

// fractions are those of the roots of the first so many primes.
func fractions(count int, degree int64) []uint32 {
	var l []uint32
	for _, p := range primes(count) {
		l = append(l, fraction(p, degree))
	}
	return l
}

// hSquares and kCubes are the document's H and K.
var hSquares, kCubes = fractions(8, 2), fractions(64, 3)

// filledUp is s, and what fills it up, by the words of the document.
func filledUp(s string) string {
	bitCount := uint64(len(s)) * 8
	s += "\x80"
	for len(s)%64 != 56 {
		s += "\x00"
	}
	for i := 7; i >= 0; i-- {
		s += string([]byte{byte(bitCount >> (8 * i))})
	}
	return s
}

func r(n uint32, k int) uint32 { return n>>k | n<<(32-k) }

// ofBlock is what a block makes of eight numbers, by the words of the document, with all its 64 numbers.
func ofBlock(was [8]uint32, block string) [8]uint32 {
	var w [64]uint32
	for i := range w {
		if i < 16 {
			for j := range 4 {
				w[i] += uint32(block[4*i+j]) << (24 - 8*j)
			}
			continue
		}
		x, y := w[i-15], w[i-2]
		w[i] = w[i-16] + (r(x, 7) ^ r(x, 18) ^ x>>3) + w[i-7] + (r(y, 17) ^ r(y, 19) ^ y>>10)
	}
	v := was
	for i := range 64 {
		a, b, c, e, f, g := v[0], v[1], v[2], v[4], v[5], v[6]
		t := v[7] + (r(e, 6) ^ r(e, 11) ^ r(e, 25)) + ((e & f) ^ (^e & g)) + kCubes[i] + w[i]
		u := (r(a, 2) ^ r(a, 13) ^ r(a, 22)) + ((a & b) ^ (a & c) ^ (b & c))
		v = [8]uint32{t + u, a, b, c, v[3] + t, e, f, g}
	}
	for i := range v {
		v[i] += was[i]
	}
	return v
}

// hashOf is the hash by the words of the document.
func hashOf(s string) api.Digest {
	var v [8]uint32
	copy(v[:], hSquares)
	for all := filledUp(s); all != ""; all = all[64:] {
		v = ofBlock(v, all[:64])
	}
	var d api.Digest
	for i := range d {
		d[i] = byte(v[i/4] >> (24 - 8*(i%4)))
	}
	return d
}

func digits(d api.Digest) string { return hex.EncodeToString(d[:]) }

// mixed is a text of so many bytes, unlike for each seed.
func mixed(size int, seed uint32) string {
	b := make([]byte, size)
	n := seed*2654435761 + 12345
	for i := range b {
		n = n*1664525 + 1013904223
		b[i] = byte(n >> 24)
	}
	return string(b)
}

// edges are the sizes about which a block, or the place for the length in it, is full.
var edges = []int{0, 1, 2, 54, 55, 56, 57, 63, 64, 65, 118, 119, 120, 121, 127, 128, 129, 183, 184, 191, 192, 193}

// texts are of nothing, of some bytes, of each edge, and of many blocks.
func texts() []string {
	l := []string{
		"a", "abc", "lighter, the images", "\x00", "\xFF", "\x80", "\x80\x00",
		"\u00e4\u00f6\u20ac",   // of more than one byte a rune
		"\xC3", "\x80\xC3\x28", // no runes at all
	}
	for _, size := range edges {
		l = append(l, mixed(size, uint32(size)), strings.Repeat("\x00", size), strings.Repeat("\xFF", size), strings.Repeat("a", size))
	}
	for _, size := range []int{511, 512, 513, 1000} {
		l = append(l, mixed(size, uint32(size)))
	}
	return l
}

// written is a hasher that took s.
func written(s string) *Hasher {
	h := New()
	h.Write(s)
	return h
}

// holds fails, if h tells otherwise than one that took s; it is asked twice, as asking may change nothing.
func holds(t *testing.T, what string, h *Hasher, s string) {
	t.Helper()
	for range 2 {
		if d, want := h.Sum(), hashOf(s); d != want {
			t.Errorf("%s: Sum %s; want %s (%d bytes)", what, digits(d), digits(want), len(s))
		}
		if n := h.Size(); n != len(s) {
			t.Errorf("%s: Size %d; want %d", what, n, len(s))
		}
	}
}

// P4.1: the numbers H and K are the roots' own.
func TestRoots(t *testing.T) {
	for i, want := range hSquares {
		if squares[i] != want {
			t.Errorf("H[%d] = %X; want %X", i, squares[i], want)
		}
	}
	for i, want := range kCubes {
		if cubes[i] != want {
			t.Errorf("K[%d] = %X; want %X", i, cubes[i], want)
		}
	}
}

// P4.1: Of texts whose hashes are known from elsewhere, the document's examples among them.
func TestOfKnown(t *testing.T) {
	for _, x := range []struct{ s, want string }{
		{"", "e3b0c44298fc1c149afbf4c8996fb92427ae41e4649b934ca495991b7852b855"},
		{"abc", "ba7816bf8f01cfea414140de5dae2223b00361a396177a9cb410ff61f20015ad"},
		{"a", "ca978112ca1bbdcafac231b39a23dc4da786eff8147c4e72b9807785afee48bb"},
		{"\xBD", "68325720aabd7c82f30f554b313d0570c95accbb7dc4b5aae11204c08ffe732b"},
		{"abcdbcdecdefdefgefghfghighijhijkijkljklmklmnlmnomnopnopq", "248d6a61d20638b8e5c026930c3e6039a33ce45964ff2167f6ecedd419db06c1"},
		{"abcdefghbcdefghicdefghijdefghijkefghijklfghijklmghijklmnhijklmnoijklmnopjklmnopqklmnopqrlmnopqrsmnopqrstnopqrstu", "cf5b16a778af8380036ce59e7b0492370b249b11e8f07a51afac45037afee9d1"},
		{"The quick brown fox jumps over the lazy dog", "d7a8fbb307d7809469ca9abcb0082e4f8d5651e46d3cdb762d02d0bf37c9e592"},
		{strings.Repeat("\x00", 64), "f5a5fd42d16a20302798ef6ed309979b43003d2320d9f0e8ea9831a92759fb4b"},
		{strings.Repeat("a", 1000000), "cdc76e5c9914fb9281a1c7e284d73e67f1809a48a497200e046d39ccc7112cd0"},
	} {
		if d := digits(Of(x.s)); d != x.want {
			t.Errorf("Of %d bytes (%.20q) = %s; want %s", len(x.s), x.s, d, x.want)
		}
		if len(x.s) < 1000 && digits(hashOf(x.s)) != x.want {
			t.Errorf("by the document's words %.20q comes to %s; want %s", x.s, digits(hashOf(x.s)), x.want)
		}
	}
}

// P4.1: Of nothing, of some bytes, of each edge and of many blocks, by the document's words.
func TestOf(t *testing.T) {
	for _, s := range texts() {
		if d, want := Of(s), hashOf(s); d != want {
			t.Errorf("Of(%q) = %s; want %s", s, digits(d), digits(want))
		}
	}
}

// P4.1: Of each size up to some blocks.
func TestOfEachSize(t *testing.T) {
	for size := range 5*64 + 2 {
		s := mixed(size, 3)
		if d, want := Of(s), hashOf(s); d != want {
			t.Errorf("Of %d bytes = %s; want %s", size, digits(d), digits(want))
		}
	}
}

// P4.1: Of each one byte, alone and as the last one that a block has room for.
func TestOfEachByte(t *testing.T) {
	for b := range 256 {
		one := string([]byte{byte(b)})
		for _, s := range []string{one, mixed(54, 1) + one, mixed(55, 1) + one, mixed(63, 1) + one, one + mixed(63, 1)} {
			if d, want := Of(s), hashOf(s); d != want {
				t.Errorf("Of(%q) = %s; want %s", s, digits(d), digits(want))
			}
		}
	}
}

// P4.1: Of many blocks, held against the library's: the length needs two to four of its bytes.
func TestOfManyBlocks(t *testing.T) {
	for _, size := range []int{8191, 8192, 8193, 65535, 65536, 1<<21 - 1, 1 << 21, 1<<21 + 1} {
		for _, s := range []string{mixed(size, 7), strings.Repeat("\xFF", size)} {
			if d, want := Of(s), api.Digest(sha256.Sum256([]byte(s))); d != want {
				t.Errorf("Of %d bytes = %s; the library has %s", size, digits(d), digits(want))
			}
		}
	}
}

// P4.1, P4.2: the length goes beyond 32 bits: 2^29 bytes have 2^32 of them.
func TestLengthBeyond32Bits(t *testing.T) {
	part := mixed(1<<20, 11)
	h, known := New(), sha256.New()
	for range 1 << 9 {
		h.Write(part)
		known.Write([]byte(part))
	}
	if n := h.Size(); n != 1<<29 {
		t.Errorf("Size %d", n)
	}
	if d, want := h.Sum(), api.Digest(known.Sum(nil)); d != want {
		t.Errorf("Sum %s; the library has %s", digits(d), digits(want))
	}
}

// P4.1: texts that differ in one bit have not the same, wherever it is, nor have those that are longer by bytes 0.
func TestOfTextsThatDiffer(t *testing.T) {
	s := mixed(70, 4)
	seen := map[api.Digest]string{Of(s): s}
	add := func(other string) {
		d := Of(other)
		if was, ok := seen[d]; ok {
			t.Errorf("%q and %q: both %s", was, other, digits(d))
		}
		seen[d] = other
	}
	for i := range 8 * len(s) {
		b := []byte(s)
		b[i/8] ^= 1 << (i % 8)
		add(string(b))
	}
	for i := range 130 {
		add(s + strings.Repeat("\x00", i+1))
		add(strings.Repeat("\x00", i))
	}
}

// P4.2: a new one took nothing, and each one is its own.
func TestNew(t *testing.T) {
	h, other := New(), New()
	if h == nil || other == nil || h == other {
		t.Fatal("New twice:", h, other)
	}
	holds(t, "new", h, "")
	h.Write("abc")
	holds(t, "new, behind another one's Write", other, "")
	holds(t, "a third one", New(), "")
	other.Write("de")
	holds(t, "the first", h, "abc")
	holds(t, "the second", other, "de")
}

// P4.2: the document's example: Write tells how many bytes it took, and what it takes stands behind all else.
func TestWriteExample(t *testing.T) {
	h := New()
	if n := h.Write("a"); n != 1 {
		t.Errorf("Write(a) = %d", n)
	}
	if n := h.Write("bc"); n != 2 {
		t.Errorf("Write(bc) = %d", n)
	}
	if d := digits(h.Sum()); d != "ba7816bf8f01cfea414140de5dae2223b00361a396177a9cb410ff61f20015ad" {
		t.Errorf("Sum %s", d)
	}
}

// P4.2: Write tells how many bytes the part has, whatever was taken ahead.
func TestWriteTellsTheSize(t *testing.T) {
	for _, first := range edges {
		for _, s := range texts() {
			h := written(mixed(first, 2))
			if n := h.Write(s); n != len(s) {
				t.Errorf("behind %d bytes: Write(%q) = %d", first, s, n)
			}
			if n := h.Size(); n != first+len(s) {
				t.Errorf("behind %d bytes: Size %d; want %d", first, n, first+len(s))
			}
		}
	}
}

// P4.2: Sum and Size are those of all so far, asked behind each Write, twice, and it goes on as if it was not asked.
func TestSumInBetween(t *testing.T) {
	for _, size := range []int{1, 7, 55, 56, 57, 63, 64, 65} {
		h, all := New(), ""
		for i := range 8 {
			s := mixed(size, uint32(i))
			h.Write(s)
			all += s
			holds(t, "in between", h, all)
		}
		if d, want := h.Sum(), Of(all); d != want {
			t.Errorf("parts of %d: Sum %s; Of has %s", size, digits(d), digits(want))
		}
	}
}

// P4.2: Write of nothing changes nothing.
func TestWriteOfNothing(t *testing.T) {
	for _, size := range edges {
		s := mixed(size, 5)
		h := New()
		for range 3 {
			if n := h.Write(""); n != 0 {
				t.Errorf("Write of nothing = %d", n)
			}
		}
		h.Write(s)
		h.Write("")
		holds(t, "nothing behind it", h, s)
	}
}

// P4.2: a copy took the same, and goes on by itself; so does the first one, whichever goes on first.
func TestCopy(t *testing.T) {
	for _, size := range edges {
		for _, more := range []int{0, 1, 8, 55, 56, 63, 64, 65, 130} {
			s, x, y := mixed(size, 1), mixed(more, 2), mixed(more+1, 3)
			h := written(s)
			c := h.Copy()
			if c == nil || c == h {
				t.Fatal("Copy:", c)
			}
			holds(t, "a copy", c, s)
			c.Write(x)
			holds(t, "the first one, as the copy went on", h, s)
			holds(t, "a copy that went on", c, s+x)
			h.Write(y)
			holds(t, "a copy, as the first one went on", c, s+x)
			holds(t, "the first one, that went on", h, s+y)
			c.Write(y)
			h.Write(x)
			holds(t, "a copy, further on", c, s+x+y)
			holds(t, "the first one, further on", h, s+y+x)
		}
	}
}

// P4.2: the first one goes on alone, and its copy stays; a copy's copy is its own, too.
func TestCopyStays(t *testing.T) {
	for _, size := range edges {
		s := mixed(size, 6)
		h := written(s)
		c := h.Copy()
		h.Write(mixed(200, 7))
		h.Sum()
		holds(t, "a copy that was left alone", c, s)
		e := c.Copy()
		c.Write("x")
		holds(t, "a copy's copy", e, s)
		e.Write("yz")
		holds(t, "the copy", c, s+"x")
		holds(t, "a copy's copy that went on", e, s+"yz")
	}
}

// P4.2: of a hasher that is nil, or that New did not make, there is nothing, and nothing is taken.
func TestNoHasher(t *testing.T) {
	for name, h := range map[string]*Hasher{"nil": nil, "new(Hasher)": new(Hasher), "&Hasher{}": {}} {
		for range 2 {
			for _, s := range []string{"", "a", mixed(64, 1), mixed(200, 1)} {
				if n := h.Write(s); n != 0 {
					t.Errorf("%s: Write of %d bytes = %d", name, len(s), n)
				}
				if d := h.Sum(); d != (api.Digest{}) {
					t.Errorf("%s: Sum %s", name, digits(d))
				}
				if n := h.Size(); n != 0 {
					t.Errorf("%s: Size %d", name, n)
				}
				if c := h.Copy(); c != nil {
					t.Errorf("%s: Copy %v", name, c)
				}
			}
		}
	}
}

// P4.2, R2: hashers that are written to by turns know nothing of each other, and Of of none of them.
func TestByTurns(t *testing.T) {
	var l [3]*Hasher
	var all [3]string
	for i := range l {
		l[i] = New()
	}
	for i := range 60 {
		s := mixed(i, uint32(i))
		l[i%3].Write(s)
		all[i%3] += s
		if Of(s) != hashOf(s) {
			t.Errorf("Of %d bytes, in between", i)
		}
	}
	for i := range l {
		holds(t, "by turns", l[i], all[i])
	}
}

// P4.2, R4: a digest that was told stays as it was, and is the caller's own.
func TestDigestIsTheCallers(t *testing.T) {
	h := written("abc")
	d := h.Sum()
	h.Write("d")
	if d != hashOf("abc") {
		t.Errorf("behind a Write: %s", digits(d))
	}
	e := h.Sum()
	clear(e[:])
	holds(t, "behind a change of what was told", h, "abcd")
}

// P4.3: a text that is parted at each place, also into nothing and all of it.
func TestParted(t *testing.T) {
	for _, s := range texts() {
		want := Of(s)
		for i := range len(s) + 1 {
			h := written(s[:i])
			h.Write(s[i:])
			if d := h.Sum(); d != want {
				t.Errorf("%d bytes, parted at %d: %s; want %s", len(s), i, digits(d), digits(want))
			}
			if n := h.Size(); n != len(s) {
				t.Errorf("%d bytes, parted at %d: Size %d", len(s), i, n)
			}
		}
	}
}

// P4.3: a text in three parts, with Sum asked in between, at each two places.
func TestThreeParts(t *testing.T) {
	for _, size := range []int{3, 64, 65, 130} {
		s := mixed(size, 8)
		want := hashOf(s)
		for i := range len(s) + 1 {
			for j := i; j <= len(s); j++ {
				h := written(s[:i])
				h.Write(s[i:j])
				h.Sum()
				h.Write(s[j:])
				if d := h.Sum(); d != want {
					t.Errorf("%d bytes, parted at %d and %d: %s; want %s", size, i, j, digits(d), digits(want))
				}
			}
		}
	}
}

// P4.3: a text byte by byte, in parts of each size, and in parts that grow.
func TestManyParts(t *testing.T) {
	s := mixed(700, 9)
	want := hashOf(s)
	for size := 1; size <= 200; size++ {
		h := New()
		for left := s; left != ""; {
			n := min(size, len(left))
			h.Write(left[:n])
			left = left[n:]
		}
		if d := h.Sum(); d != want {
			t.Errorf("in parts of %d: %s; want %s", size, digits(d), digits(want))
		}
	}
	h := New()
	for size, left := 0, s; left != ""; size++ {
		n := min(size, len(left))
		h.Write(left[:n])
		left = left[n:]
	}
	holds(t, "in parts that grow", h, s)
}

// P4.3: a copy that takes the rest comes to the same as one that took all of it.
func TestPartedByACopy(t *testing.T) {
	s := mixed(150, 10)
	want := Of(s)
	h := New()
	for i := range len(s) + 1 {
		c := h.Copy()
		c.Write(s[i:])
		if d := c.Sum(); d != want {
			t.Errorf("copied at %d: %s; want %s", i, digits(d), digits(want))
		}
		if i < len(s) {
			h.Write(s[i : i+1])
		}
	}
}
