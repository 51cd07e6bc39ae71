package digests

import (
	"bytes"
	"encoding/hex"
	"regexp"
	"strings"
	"testing"

	"lighter/api"
)

const (
	allDigits = "0123456789abcdef"
	bytesOf   = 32 // a digest
)

// form is that of a digest's text, by the document's words.
var form = regexp.MustCompile(`\Asha256:[0-9a-f]{64}\z`)

// all is a digest of one byte, 32 times.
func all(b byte) (d api.Digest) {
	for i := range d {
		d[i] = b
	}
	return d
}

// mixed is a digest that is unlike for each seed.
func mixed(seed uint32) (d api.Digest) {
	n := seed*2654435761 + 12345
	for i := range d {
		n = n*1664525 + 1013904223
		d[i] = byte(n >> 24)
	}
	return d
}

// with is a digest with another byte at one place.
func with(d api.Digest, at int, b byte) api.Digest {
	d[at] = b
	return d
}

// digests are of each byte alone, of each byte at each place among others, and mixed ones.
func digests() []api.Digest {
	var l []api.Digest
	for b := range 256 {
		l = append(l, all(byte(b)), mixed(uint32(b)))
		for at := range bytesOf {
			l = append(l, with(api.Digest{}, at, byte(b)), with(mixed(7), at, byte(b)))
		}
	}
	return l
}

// put is a text of which another one takes the place of as many bytes.
func put(s string, at int, other string) string {
	return s[:at] + other + s[at+len(other):]
}

// isNone fails, if a text is read as a digest's.
func isNone(t *testing.T, what, s string) {
	t.Helper()
	if d, e := Parse(s); e != api.ErrForm || d != (api.Digest{}) {
		t.Errorf("%s: Parse(%q) = %x, %d; want ErrForm", what, s, d, int(e))
	}
}

// P5.1: the document's examples, digests of bytes 0 and 255, and a known one.
func TestKnown(t *testing.T) {
	var abc api.Digest
	hex.Decode(abc[:], []byte("ba7816bf8f01cfea414140de5dae2223b00361a396177a9cb410ff61f20015ad"))
	var rising api.Digest
	for i := range rising {
		rising[i] = byte(i)
	}
	for _, x := range []struct {
		d           api.Digest
		text, short string
	}{
		{with(api.Digest{}, 0, 0xAB), "sha256:ab" + strings.Repeat("0", 62), "ab0000000000"},
		{all(0), "sha256:" + strings.Repeat("0", 64), "000000000000"},
		{all(255), "sha256:" + strings.Repeat("f", 64), "ffffffffffff"},
		{all(0x0F), "sha256:" + strings.Repeat("0f", 32), "0f0f0f0f0f0f"},
		{all(0xF0), "sha256:" + strings.Repeat("f0", 32), "f0f0f0f0f0f0"},
		{with(api.Digest{}, 31, 1), "sha256:" + strings.Repeat("0", 63) + "1", "000000000000"},
		{with(api.Digest{}, 5, 0x9A), "sha256:00000000009a" + strings.Repeat("0", 52), "00000000009a"},
		{with(api.Digest{}, 6, 0x9A), "sha256:0000000000009a" + strings.Repeat("0", 50), "000000000000"},
		{abc, "sha256:ba7816bf8f01cfea414140de5dae2223b00361a396177a9cb410ff61f20015ad", "ba7816bf8f01"},
		{rising, "sha256:000102030405060708090a0b0c0d0e0f101112131415161718191a1b1c1d1e1f", "000102030405"},
	} {
		if s := Text(x.d); s != x.text {
			t.Errorf("Text(%x) = %q; want %q", x.d, s, x.text)
		}
		if s := Short(x.d); s != x.short {
			t.Errorf("Short(%x) = %q; want %q", x.d, s, x.short)
		}
		if d, e := Parse(x.text); d != x.d || e != api.OK {
			t.Errorf("Parse(%q) = %x, %d; want %x", x.text, d, int(e), x.d)
		}
	}
}

// P5.1: Text and Short of each byte at each place, held against the library's.
func TestTextAndShort(t *testing.T) {
	for _, d := range digests() {
		want := hex.EncodeToString(d[:])
		if s := Text(d); s != "sha256:"+want {
			t.Errorf("Text(%x) = %q", d, s)
		}
		if s := Short(d); s != want[:12] {
			t.Errorf("Short(%x) = %q", d, s)
		}
	}
}

// P5.1: Parse of each of the 16 digits at each place, among zeros, among f and among others.
func TestParseEachDigit(t *testing.T) {
	for _, was := range []api.Digest{all(0), all(255), mixed(1)} {
		text := "sha256:" + hex.EncodeToString(was[:])
		for at := range 64 {
			for n, digit := range allDigits {
				want := was
				if at%2 == 0 {
					want[at/2] = byte(16*n) + was[at/2]%16
				} else {
					want[at/2] = was[at/2] - was[at/2]%16 + byte(n)
				}
				s := put(text, 7+at, string(digit))
				if d, e := Parse(s); d != want || e != api.OK {
					t.Errorf("Parse(%q) = %x, %d; want %x", s, d, int(e), want)
				}
			}
		}
	}
}

// P5.1: texts that are too short, by one letter up to all of them, or too long.
func TestParseSizes(t *testing.T) {
	for _, d := range []api.Digest{all(0), all(255), mixed(2)} {
		s := Text(d)
		for n := range len(s) {
			isNone(t, "too short", s[:n])
			isNone(t, "without its beginning", s[n+1:])
			isNone(t, "without one letter", s[:n]+s[n+1:])
		}
		for at := range len(s) + 1 {
			for _, more := range []string{"0", "f", " ", "\x00", "\n", "sha256:", "00"} {
				isNone(t, "too long", s[:at]+more+s[at:])
			}
		}
		isNone(t, "twice", s+s)
		isNone(t, "digits twice", s+s[7:])
		isNone(t, "far too long", s+strings.Repeat("0", 1<<16))
	}
	isNone(t, "the name alone", "sha256:")
	isNone(t, "the name alone, as long as all", "sha256:"+strings.Repeat(":", 64))
}

// P5.1: great letters, at each place, and all of them.
func TestParseGreatLetters(t *testing.T) {
	s := Text(all(0xAB))
	for at := range len(s) {
		if great := strings.ToUpper(s[at : at+1]); great != s[at:at+1] {
			isNone(t, "a great letter", put(s, at, great))
		}
	}
	for _, great := range "ABCDEF" {
		for at := 7; at < len(s); at++ {
			isNone(t, "a great digit", put(s, at, string(great)))
		}
		isNone(t, "great digits", "sha256:"+strings.Repeat(string(great), 64))
	}
	isNone(t, "all great", strings.ToUpper(s))
	isNone(t, "the name alone great", "SHA256:"+s[7:])
	isNone(t, "the digits alone great", "sha256:"+strings.ToUpper(s[7:]))
	isNone(t, "the document's example", "sha256:AB"+strings.Repeat("0", 62))
}

// P5.1: other names ahead of the colon, as long as sha256 or not, none, and no colon.
func TestParseNames(t *testing.T) {
	digits := hex.EncodeToString(make([]byte, 32))
	for _, name := range []string{
		"", ":", "sha256", "sha256::", ":sha256:", "sha256: ", " sha256:", "sha256 :", "sha256;", "sha256-", "sha256\x00", "sha256=",
		"md5:", "sha1:", "sha512:", "sha384:", "sha265:", "sha255:", "sha257:", "sha25:", "sha2560:", "sha-256:", "sha256+b64:",
		"Sha256:", "shA256:", "sha:", "ha256:", "256:", "blake3:", "000000:", "0000000", "\uFF53ha2:", "sha25\u00b2:",
	} {
		isNone(t, "another name", name+digits)
		// As many bytes as a digest's text has.
		if n := 71 - len(name); n >= 0 {
			isNone(t, "another name, the same size", name+strings.Repeat("0", n))
		}
	}
	isNone(t, "the document's example", "md5:ab")
	isNone(t, "the name behind the digits", digits+"sha256:")
	isNone(t, "the name behind the digits", digits+":sha256")
	for at := range 7 {
		for b := range 256 {
			if s := put("sha256:"+digits, at, string([]byte{byte(b)})); s[:7] != "sha256:" {
				isNone(t, "another name", s)
			}
		}
	}
}

// P5.1: each byte that is no digit, at each place, also those that are no letter at all.
func TestParseBytes(t *testing.T) {
	for _, d := range []api.Digest{all(0), mixed(3)} {
		text := Text(d)
		for at := 7; at < len(text); at++ {
			for b := range 256 {
				if !strings.Contains(allDigits, string(rune(b))) {
					isNone(t, "no digit", put(text, at, string([]byte{byte(b)})))
				}
			}
		}
	}
}

// P5.1: letters of more than one byte, and bytes that are no letter, at each place at which there is room for them.
func TestParseLetters(t *testing.T) {
	text := Text(mixed(4))
	for _, letter := range []string{
		"\u00e4", "\u0660", "\uFF10", "\uFF41", "\u0430", "\u00b2", "\u2080", "\uFFFD", "\U0001D7CE", "\U0001F600", "\u0000",
		"\u0130", "\u0139", "\u0161", "\u0166", "\u0230", "\u1030", "\u6130", "\U00010030", "\U00010061", // their lowest bytes are digits
		"\x80", "\xBF", "\xC3", "\xFF", "\xC0\xB0", "\xC1\xA1", "\xE0\x80\xB0", "\xF0\x80\x80\xB0", "\xED\xA0\x80", "\xF4\x90\x80\x80", "\xC3\x28",
	} {
		for at := 0; at+len(letter) <= len(text); at++ {
			// Once with as many bytes as a digest's text has, once with as many letters.
			isNone(t, "another letter", put(text, at, letter))
			isNone(t, "another letter", text[:at]+letter+text[at+1:])
		}
		isNone(t, "other letters", "sha256:"+strings.Repeat(letter, 64))
		isNone(t, "other letters", "sha256:"+strings.Repeat(letter, 64)[:64])
		isNone(t, "other letters, then digits", "sha256:"+letter+strings.Repeat("0", 64-len(letter)))
		isNone(t, "digits, then other letters", "sha256:"+strings.Repeat("0", 64-len(letter))+letter)
	}
	isNone(t, "a sign", "sha256:+"+strings.Repeat("0", 63))
	isNone(t, "a sign", "sha256:-"+strings.Repeat("0", 63))
	isNone(t, "another base's sign", "sha256:0x"+strings.Repeat("0", 62))
	isNone(t, "a low line", "sha256:0_"+strings.Repeat("0", 62))
}

// P5.1: a digit that is wrong at the end makes no difference to what is told: nothing of the digits ahead of it.
func TestParseWrongAtTheEnd(t *testing.T) {
	text := Text(all(255))
	for _, last := range []string{"g", "F", "G", "/", ":", "`", "@", "\x80"} {
		isNone(t, "wrong at the end", put(text, 70, last))
		isNone(t, "wrong amid", put(text, 38, last))
		isNone(t, "wrong at first", put(text, 7, last))
	}
}

// P5.1: Less of two that differ in one byte: the first, the last, and each one amid.
func TestLessOneByte(t *testing.T) {
	edges := []byte{0, 1, 2, 9, 10, 15, 16, 127, 128, 129, 254, 255}
	for _, d := range []api.Digest{all(0), all(255), mixed(5)} {
		for at := range d {
			for _, x := range edges {
				for _, y := range edges {
					a, b := with(d, at, x), with(d, at, y)
					if Less(a, b) != (x < y) {
						t.Errorf("byte %d: Less of %d and %d: %t", at, x, y, Less(a, b))
					}
				}
			}
		}
	}
}

// P5.1: of two bytes that differ the first one tells, whatever the bytes behind it are.
func TestLessFirstTells(t *testing.T) {
	for first := range bytesOf {
		for later := first + 1; later < bytesOf; later++ {
			a := with(with(all(7), first, 6), later, 255)
			b := with(with(all(7), first, 200), later, 0)
			if !Less(a, b) || Less(b, a) {
				t.Errorf("bytes %d and %d: %t, %t", first, later, Less(a, b), Less(b, a))
			}
		}
	}
}

// P5.1: none is Less than itself, and zeros stand ahead of all others, bytes 255 behind them.
func TestLessEdges(t *testing.T) {
	low, high := all(0), all(255)
	for _, d := range digests() {
		if Less(d, d) {
			t.Errorf("Less(%x, itself)", d)
		}
		if Less(d, low) || Less(low, d) != (d != low) {
			t.Errorf("Less of %x and zeros: %t, %t", d, Less(d, low), Less(low, d))
		}
		if Less(high, d) || Less(d, high) != (d != high) {
			t.Errorf("Less of %x and bytes 255: %t, %t", d, Less(d, high), Less(high, d))
		}
	}
}

// P5.2: what is told as a text is parsed as what it was, and no two have one text.
func TestToldIsParsed(t *testing.T) {
	seen := map[string]api.Digest{}
	for _, d := range digests() {
		s := Text(d)
		if was, ok := seen[s]; ok && was != d {
			t.Errorf("Text(%x) = Text(%x)", d, was)
		}
		seen[s] = d
		if !form.MatchString(s) {
			t.Errorf("Text(%x) = %q: no digest's text", d, s)
		}
		if !strings.HasPrefix(s, "sha256:"+Short(d)) {
			t.Errorf("Text(%x) = %q; Short %q", d, s, Short(d))
		}
		if got, e := Parse(s); got != d || e != api.OK {
			t.Errorf("Parse(Text(%x)) = %x, %d", d, got, int(e))
		}
	}
}

// P5.2: what is parsed is told so, and just what has the form is parsed: each byte at each place.
func TestParsedIsTold(t *testing.T) {
	for _, was := range []api.Digest{all(0x5A), mixed(6)} {
		text := Text(was)
		for at := range len(text) {
			for b := range 256 {
				s := put(text, at, string([]byte{byte(b)}))
				d, e := Parse(s)
				if (e == api.OK) != form.MatchString(s) {
					t.Errorf("Parse(%q): %d", s, int(e))
				}
				if e == api.OK && Text(d) != s {
					t.Errorf("Text(Parse(%q)) = %q", s, Text(d))
				}
			}
		}
	}
}

// P5.2: of two that are not the same one is Less, as their texts are.
func TestLessAsTexts(t *testing.T) {
	l := []api.Digest{all(0), all(1), all(9), all(10), all(0x0F), all(0x10), all(0x99), all(0x9A), all(0xA0), all(127), all(128), all(255)}
	for seed := range 60 {
		d := mixed(uint32(seed))
		l = append(l, d)
		for _, at := range []int{0, 1, 5, 6, 15, 16, 30, 31} {
			l = append(l, with(d, at, d[at]+1), with(d, at, d[at]^0x80))
		}
	}
	for _, a := range l {
		for _, b := range l {
			less := Less(a, b)
			if less != (bytes.Compare(a[:], b[:]) < 0) {
				t.Errorf("Less(%x, %x) = %t", a, b, less)
			}
			if less != (Text(a) < Text(b)) {
				t.Errorf("Less(%x, %x) = %t: not as their texts", a, b, less)
			}
			if a != b && less == Less(b, a) {
				t.Errorf("Less of %x and %x, both ways: %t", a, b, less)
			}
		}
	}
}

// P5.1, R2, R4: what is told is told again, also behind a text that is wrong, and what was handed in stays as it was.
func TestToldAgain(t *testing.T) {
	d, other := mixed(8), mixed(9)
	was, text := d, Text(d)
	isNone(t, "in between", text[:70]+"g")
	Less(d, other)
	Parse(Text(other))
	if Text(d) != text || d != was {
		t.Errorf("Text(%x) = %q; it was %q", d, Text(d), text)
	}
	got, _ := Parse(text)
	clear(got[:])
	if again, e := Parse(text); again != was || e != api.OK {
		t.Errorf("Parse(%q) again = %x, %d", text, again, int(e))
	}
}
