package tar

import (
	library "archive/tar"
	"fmt"
	"io"
	"regexp"
	"slices"
	"strconv"
	"strings"
	"testing"
	"unsafe"

	"lighter/api"
)

const (
	maxPath    = 200
	maxEntries = 200
)

// Forms of the document's words.
var (
	numberForm = regexp.MustCompile(`\A *([0-7]+)[ \x00]*\z`)
	lengthForm = regexp.MustCompile(`\A([1-9][0-9]*) `)
	recordForm = regexp.MustCompile(`(?s)\A[0-9]+ ([^=]*)=(.*)\n\z`)
	digitsForm = regexp.MustCompile(`\A[0-9]+\z`)
)

// end is what stands behind all entries.
var end = times("\x00", 1024)

// raw is a head's fields, each of them filled up with bytes 0; where the sum is nothing the right one stands.
type raw struct {
	name, mode, owner, group, size, time, sum, kind, link, magic, version, others, prefix, rest string
}

// plain is a head as others write it.
func plain(kind, name string, size int) raw {
	return raw{name: name, mode: "0000644\x00", size: fmt.Sprintf("%011o\x00", size), kind: kind, magic: "ustar\x00", version: "00"}
}

// block is the head's bytes.
func (r raw) block() string {
	var b strings.Builder
	for _, f := range []struct {
		text string
		size int
	}{
		{r.name, 100}, {r.mode, 8}, {r.owner, 8}, {r.group, 8}, {r.size, 12}, {r.time, 12}, {r.sum, 8}, {r.kind, 1}, {r.link, 100}, {r.magic, 6}, {r.version, 2}, {r.others, 80}, {r.prefix, 155}, {r.rest, 12},
	} {
		if len(f.text) > f.size {
			panic(f.text)
		}
		b.WriteString(f.text + times("\x00", f.size-len(f.text)))
	}
	if r.sum == "" {
		return summed(b.String())
	}
	return b.String()
}

// summed is a block with the right sum.
func summed(block string) string {
	return fmt.Sprintf("%s%06o\x00 %s", block[:148], total(block), block[156:])
}

// total is the sum of a block's bytes, with blanks in the sum's place.
func total(block string) int {
	n := 8 * 32
	for _, c := range []byte(block[:148] + block[156:]) {
		n += int(c)
	}
	return n
}

// full is a text, filled up to a block.
func full(s string) string {
	for len(s)%512 != 0 {
		s += "\x00"
	}
	return s
}

// file is a file's bytes.
func file(name, data string) string {
	return plain("0", name, len(data)).block() + full(data)
}

// noted is records' bytes.
func noted(data string) string {
	return plain("x", "r", len(data)).block() + full(data)
}

// line is a record: its length, the least one that fits, is found by trying.
func line(key, value string) string {
	rest := " " + key + "=" + value + "\n"
	for n := len(rest); ; n++ {
		if digits := strconv.Itoa(n); len(digits)+len(rest) == n {
			return digits + rest
		}
	}
}

func times(s string, n int) string { return strings.Repeat(s, n) }

// none tells whether all bytes are 0.
func none(s string) bool { return strings.Count(s, "\x00") == len(s) }

// untilZero is a field's text.
func untilZero(s string) string { return strings.SplitN(s, "\x00", 2)[0] }

// numberAs is a field's number by the document's words.
func numberAs(field string) (int, bool) {
	m := numberForm.FindStringSubmatch(field)
	if m == nil {
		return 0, false
	}
	n, err := strconv.ParseUint(m[1], 8, 40)
	return int(n), err == nil
}

// recordsAs is what records have by their keys, by the document's words.
func recordsAs(data string) (map[string]string, bool) {
	l := map[string]string{}
	for data != "" {
		m := lengthForm.FindStringSubmatch(data)
		if m == nil {
			return nil, false
		}
		n, err := strconv.Atoi(m[1])
		if err != nil || n > len(data) {
			return nil, false
		}
		r := recordForm.FindStringSubmatch(data[:n])
		if r == nil {
			return nil, false
		}
		l[r[1]], data = r[2], data[n:]
	}
	return l, true
}

// textAs is what is wrong with a name or a target, by the document's words.
func textAs(s string) api.Errno {
	switch {
	case len(s) > maxPath:
		return api.ErrLong
	case s == "" || strings.IndexByte(s, 0) >= 0:
		return api.ErrForm
	}
	return api.OK
}

// headAs tells whether a block is a head that may be, by the document's words.
func headAs(b string) bool {
	sum, ok := numberAs(b[148:156])
	_, hasMode := numberAs(b[100:108])
	_, hasSize := numberAs(b[124:136])
	return ok && hasMode && hasSize && sum == total(b) && b[257:263] == "ustar\x00" && b[263:265] == "00"
}

// entryAs is the entry of a head and of records, and its size, by the document's words.
func entryAs(b string, l map[string]string) (x api.TarEntry, size int, e api.Errno) {
	mode, _ := numberAs(b[100:108])
	size, _ = numberAs(b[124:136])
	x.Mode = mode % 4096
	x.Name = untilZero(b[:100])
	if prefix := untilZero(b[345:500]); prefix != "" {
		x.Name = strings.Join([]string{prefix, x.Name}, "/")
	}
	if path, ok := l["path"]; ok {
		x.Name = path
	}
	x.Kind = map[byte]int{0: api.TaFile, '0': api.TaFile, '1': api.TaLink, '2': api.TaSymlink, '5': api.TaDir}[b[156]]
	if x.Kind == 0 {
		return x, 0, api.ErrKind
	}
	if x.Kind == api.TaLink || x.Kind == api.TaSymlink {
		x.To = untilZero(b[157:257])
		if to, ok := l["linkpath"]; ok {
			x.To = to
		}
	}
	if told, ok := l["size"]; ok && x.Kind == api.TaFile {
		n, err := strconv.ParseUint(told, 10, 40)
		if !digitsForm.MatchString(told) || err != nil {
			return x, 0, api.ErrForm
		}
		size = int(n)
	}
	if x.Kind != api.TaFile && size != 0 {
		return x, 0, api.ErrForm
	}
	return x, size, api.OK
}

// readAs is what Read tells by the document's words.
func readAs(s string) (l []api.TarEntry, e api.Errno) {
	var ahead map[string]string
	at := 0
	for {
		if len(s) < at+512 {
			return nil, api.ErrForm
		}
		b := s[at : at+512]
		at += 512
		if none(b) {
			if ahead != nil || len(s) < at+512 || !none(s[at:]) {
				return nil, api.ErrForm
			}
			return l, api.OK
		}
		if !headAs(b) {
			return nil, api.ErrForm
		}
		if b[156] == 'x' {
			size, _ := numberAs(b[124:136])
			if ahead != nil || len(s) < at+(size+511)/512*512 {
				return nil, api.ErrForm
			}
			var ok bool
			if ahead, ok = recordsAs(s[at : at+size]); !ok {
				return nil, api.ErrForm
			}
			at += (size + 511) / 512 * 512
			continue
		}
		x, size, e := entryAs(b, ahead)
		if e != api.OK {
			return nil, e
		}
		if len(s) < at+(size+511)/512*512 {
			return nil, api.ErrForm
		}
		x.Data = s[at : at+size]
		at += (size + 511) / 512 * 512
		if e := textAs(x.Name); e != api.OK {
			return nil, e
		}
		if e := textAs(x.To); e != api.OK && (x.Kind == api.TaLink || x.Kind == api.TaSymlink) {
			return nil, e
		}
		if len(l) == maxEntries {
			return nil, api.ErrMany
		}
		l, ahead = append(l, x), nil
	}
}

// allowed tells whether an entry may be, by the document's words.
func allowed(x api.TarEntry) bool {
	link := x.Kind == api.TaLink || x.Kind == api.TaSymlink
	if !link && x.Kind != api.TaFile && x.Kind != api.TaDir {
		return false
	}
	if textAs(x.Name) != api.OK || x.Mode < 0 || x.Mode > 4095 || link != (x.To != "") {
		return false
	}
	return (x.Data == "" || x.Kind == api.TaFile) && (!link || textAs(x.To) == api.OK)
}

// first is the first bytes of a text, at most 100.
func first(s string) string { return s[:min(len(s), 100)] }

// headOf is the head of an entry, or of records.
func headOf(kind, name, to string, mode, size int) string {
	return raw{
		name: first(name), mode: fmt.Sprintf("%07o\x00", mode), owner: "0000000\x00", group: "0000000\x00", size: fmt.Sprintf("%011o\x00", size), time: "00000000000\x00",
		kind: kind, link: first(to), magic: "ustar\x00", version: "00",
	}.block()
}

// writtenAs is what Write tells by the document's words.
func writtenAs(l []api.TarEntry) (string, api.Errno) {
	if len(l) > maxEntries {
		return "", api.ErrMany
	}
	var b strings.Builder
	for _, x := range l {
		if !allowed(x) {
			return "", api.ErrArg
		}
		records := ""
		if len(x.Name) > 100 {
			records += line("path", x.Name)
		}
		if len(x.To) > 100 {
			records += line("linkpath", x.To)
		}
		if records != "" {
			b.WriteString(headOf("x", "pax", "", 0, len(records)) + full(records))
		}
		b.WriteString(headOf([]string{"", "0", "5", "1", "2"}[x.Kind], x.Name, x.To, x.Mode, len(x.Data)) + full(x.Data))
	}
	return b.String() + times("\x00", 1024), api.OK
}

// same tells whether two lists have the same entries.
func same(a, b []api.TarEntry) bool { return len(a) == len(b) && slices.Equal(a, b) }

// cut is a text's front, to be told.
func cut(s string) string {
	const most = 60
	if len(s) > most {
		return fmt.Sprintf("%q .. (%d bytes)", s[:most], len(s))
	}
	return fmt.Sprintf("%q", s)
}

// shown is entries, to be told.
func shown(l []api.TarEntry) string {
	var b strings.Builder
	for i, x := range l {
		if i == 3 {
			return fmt.Sprintf("%s .. (%d)", b.String(), len(l))
		}
		fmt.Fprintf(&b, "{%d %s %s %o %s}", x.Kind, cut(x.Name), cut(x.To), x.Mode, cut(x.Data))
	}
	return b.String()
}

// reads fails, if Read doesn't tell that of bytes.
func reads(t *testing.T, s string, want []api.TarEntry, no api.Errno) {
	t.Helper()
	l, e := Read(s)
	if e != no || !same(l, want) || e != api.OK && l != nil {
		t.Errorf("Read(%s) = %s, %d; want %s, %d", cut(s), shown(l), int(e), shown(want), int(no))
	}
}

// fails fails, if Read doesn't tell that error of bytes.
func fails(t *testing.T, s string, no api.Errno) {
	t.Helper()
	reads(t, s, nil, no)
}

// asWords fails, if Read doesn't tell of bytes what the document's words say.
func asWords(t *testing.T, s string) {
	t.Helper()
	want, no := readAs(s)
	reads(t, s, want, no)
}

// writes fails, if Write doesn't tell of entries what the document's words say, or if what it tells is not read as they are.
func writes(t *testing.T, l ...api.TarEntry) {
	t.Helper()
	want, no := writtenAs(l)
	s, e := Write(l)
	if s != want || e != no {
		t.Errorf("Write(%s) = %s, %d; want %s, %d", shown(l), cut(s), int(e), cut(want), int(no))
	}
	if e == api.OK {
		reads(t, s, l, api.OK)
	}
}

// written is entries' bytes.
func written(t *testing.T, l ...api.TarEntry) string {
	t.Helper()
	s, e := Write(l)
	if e != api.OK {
		t.Fatalf("Write(%s): %d", shown(l), int(e))
	}
	return s
}

// refuses fails, if Write doesn't tell that error of entries.
func refuses(t *testing.T, no api.Errno, l ...api.TarEntry) {
	t.Helper()
	if s, e := Write(l); s != "" || e != no {
		t.Errorf("Write(%s) = %s, %d; want %d", shown(l), cut(s), int(e), int(no))
	}
}

// one is a list of one file that other heads say as plain does.
func one(name, data string) []api.TarEntry {
	return []api.TarEntry{{Kind: api.TaFile, Name: name, Mode: 0o644, Data: data}}
}

// numbers are mixed ones.
type numbers struct{ last uint32 }

func (r *numbers) below(n int) int {
	r.last = r.last*1664525 + 1013904223
	return int(r.last>>8) % n
}

func (r *numbers) one(l []string) string { return l[r.below(len(l))] }

// text is size bytes, none of them 0.
func (r *numbers) text(size int) string {
	b := make([]byte, size)
	for i := range b {
		b[i] = byte(1 + r.below(255))
	}
	return string(b)
}

// entry is one that may be.
func (r *numbers) entry() api.TarEntry {
	sizes := []int{1, 2, 50, 99, 100, 101, 102, 150, 199, 200}
	x := api.TarEntry{Kind: 1 + r.below(4), Name: r.text(sizes[r.below(len(sizes))]), Mode: r.below(4096)}
	switch x.Kind {
	case api.TaFile:
		x.Data = times(string([]byte{byte(r.below(256))}), []int{0, 1, 2, 100, 511, 512, 513, 1024, 1500}[r.below(9)])
	case api.TaLink, api.TaSymlink:
		x.To = r.text(sizes[r.below(len(sizes))])
	}
	return x
}

// some are entries of all kinds, with short and long texts.
func some() []api.TarEntry {
	return []api.TarEntry{
		{Kind: api.TaDir, Name: "d/", Mode: 0o755},
		{Kind: api.TaFile, Name: "d/" + times("f", 120), Mode: 0o4600, Data: times("x", 513)},
		{Kind: api.TaLink, Name: "l", To: "d/" + times("f", 120)},
		{Kind: api.TaSymlink, Name: times("s", 101), To: times("t", 200), Mode: 0o777},
		{Kind: api.TaFile, Name: "e"},
		{Kind: api.TaSymlink, Name: "ä/語", To: "../\xff", Mode: 1},
	}
}

// P15.1, P15.2: the document's examples.
func TestExamples(t *testing.T) {
	if s, e := Write(nil); s != times("\x00", 1024) || e != api.OK {
		t.Errorf("Write of none: %s, %d", cut(s), int(e))
	}
	if s, e := Write([]api.TarEntry{}); s != times("\x00", 1024) || e != api.OK {
		t.Errorf("Write of an empty list: %s, %d", cut(s), int(e))
	}
	reads(t, times("\x00", 1024), nil, api.OK)
	fails(t, times("\x00", 512), api.ErrForm)
	fails(t, "", api.ErrForm)
	s := written(t, api.TarEntry{Kind: api.TaFile, Name: "a", Mode: 420, Data: "hi"})
	if len(s) != 2048 || s[:100] != "a"+times("\x00", 99) || s[100:108] != "0000644\x00" || s[124:136] != "00000000002\x00" {
		t.Errorf("Write of a file: %d bytes, %q", len(s), s[:136])
	}
}

// P15.2: all of a file's bytes, one behind the other.
func TestWriteAllBytes(t *testing.T) {
	want := "a" + times("\x00", 99) +
		"0000644\x00" + "0000000\x00" + "0000000\x00" + "00000000002\x00" + "00000000000\x00" + "006100\x00 " +
		"0" + times("\x00", 100) + "ustar\x00" + "00" + times("\x00", 80) + times("\x00", 155) + times("\x00", 12) +
		"hi" + times("\x00", 510) + times("\x00", 1024)
	if s := written(t, api.TarEntry{Kind: api.TaFile, Name: "a", Mode: 420, Data: "hi"}); s != want {
		t.Errorf("%q", s[:512])
	}
	want = "b" + times("\x00", 99) +
		"0007777\x00" + "0000000\x00" + "0000000\x00" + "00000000000\x00" + "00000000000\x00" + "006462\x00 " +
		"2" + "to" + times("\x00", 98) + "ustar\x00" + "00" + times("\x00", 80) + times("\x00", 155) + times("\x00", 12) + times("\x00", 1024)
	if s := written(t, api.TarEntry{Kind: api.TaSymlink, Name: "b", To: "to", Mode: 0o7777}); s != want {
		t.Errorf("%q", s[:512])
	}
}

// P15.2: all of the bytes of an entry with records.
func TestWriteAllBytesWithRecords(t *testing.T) {
	name, to := times("n", 101), times("t", 200)
	records := "111 path=" + name + "\n" + "214 linkpath=" + to + "\n"
	want := summed("pax"+times("\x00", 97)+"0000000\x00"+"0000000\x00"+"0000000\x00"+"00000000505\x00"+"00000000000\x00"+"        "+
		"x"+times("\x00", 100)+"ustar\x00"+"00"+times("\x00", 247)) +
		records + times("\x00", 1024-512-len(records)) +
		summed(name[:100]+"0000123\x00"+"0000000\x00"+"0000000\x00"+"00000000000\x00"+"00000000000\x00"+"        "+
			"1"+to[:100]+"ustar\x00"+"00"+times("\x00", 247)) +
		times("\x00", 1024)
	if s := written(t, api.TarEntry{Kind: api.TaLink, Name: name, To: to, Mode: 0o123}); s != want {
		t.Errorf("%d %q", len(s), s)
	}
}

// P15.2: more entries than may be, also with one beside them that may not be.
func TestWriteMany(t *testing.T) {
	l := make([]api.TarEntry, 0, 202)
	for len(l) < 202 {
		l = append(l, api.TarEntry{Kind: api.TaFile, Name: "f" + strconv.Itoa(len(l))})
	}
	for _, n := range []int{0, 1, 2, 199, 200} {
		writes(t, l[:n]...)
		if s := written(t, l[:n]...); len(s) != 512*n+1024 {
			t.Errorf("%d entries: %d bytes", n, len(s))
		}
	}
	for _, n := range []int{201, 202} {
		refuses(t, api.ErrMany, l[:n]...)
	}
	for _, at := range []int{0, 100, 199, 200} {
		bad := slices.Clone(l[:201])
		bad[at].Name = ""
		refuses(t, api.ErrMany, bad...)
		if at < 200 {
			refuses(t, api.ErrArg, bad[:200]...)
		}
	}
	refuses(t, api.ErrMany, make([]api.TarEntry, 201)...)
	refuses(t, api.ErrArg, make([]api.TarEntry, 200)...)
}

// P15.2: one that may not be, at each place among others.
func TestWriteOneThatMayNotBe(t *testing.T) {
	for _, bad := range []api.TarEntry{{}, {Kind: api.TaFile}, {Kind: api.TaFile, Name: "a", Mode: -1}, {Kind: api.TaDir, Name: "a", Data: "x"}, {Kind: api.TaLink, Name: "a"}, {Kind: 7, Name: "a"}} {
		for at := range len(some()) + 1 {
			refuses(t, api.ErrArg, slices.Insert(some(), at, bad)...)
		}
	}
	writes(t, some()...)
}

// P15.2: each kind, and kinds that are none.
func TestWriteKinds(t *testing.T) {
	for kind, want := range map[int]string{api.TaFile: "0", api.TaDir: "5", api.TaLink: "1", api.TaSymlink: "2"} {
		x := api.TarEntry{Kind: kind, Name: "a", Mode: 7}
		if kind == api.TaLink || kind == api.TaSymlink {
			x.To = "b"
		}
		if s := written(t, x); s[156:157] != want {
			t.Errorf("kind %d has type %q; want %q", kind, s[156:157], want)
		}
		writes(t, x)
	}
	const far = 1 << 62
	for _, kind := range []int{0, -1, -2, -3, -4, 5, 6, '0', '1', '2', '5', 'x', 256 + 1, 1<<32 + 1, far + 1, -far + 1, far, -far} {
		refuses(t, api.ErrArg, api.TarEntry{Kind: kind, Name: "a"})
		refuses(t, api.ErrArg, api.TarEntry{Kind: kind, Name: "a", To: "b"})
	}
}

// P15.2: what may stand in entries of which kind.
func TestWriteWhatMayStand(t *testing.T) {
	for kind := -1; kind <= 6; kind++ {
		for _, name := range []string{"", "a", "\x00", times("n", 200), times("n", 201)} {
			for _, to := range []string{"", "b", "b\x00", times("t", 200), times("t", 201)} {
				for _, mode := range []int{-4096, -1, 0, 1, 4095, 4096, 8191} {
					for _, data := range []string{"", "c", "\x00"} {
						writes(t, api.TarEntry{Kind: kind, Name: name, To: to, Mode: mode, Data: data})
					}
				}
			}
		}
	}
	for _, kind := range []int{api.TaFile, api.TaDir} {
		refuses(t, api.ErrArg, api.TarEntry{Kind: kind, Name: "a", To: "b"})
		refuses(t, api.ErrArg, api.TarEntry{Kind: kind, Name: "a", To: "\x00"})
	}
	for _, kind := range []int{api.TaLink, api.TaSymlink} {
		refuses(t, api.ErrArg, api.TarEntry{Kind: kind, Name: "a"})
		refuses(t, api.ErrArg, api.TarEntry{Kind: kind, Name: "a", To: "b", Data: "x"})
	}
	refuses(t, api.ErrArg, api.TarEntry{Kind: api.TaDir, Name: "a", Data: "x"})
}

// P15.2: names and targets of all sizes, alone, and both at once.
func TestWriteSizesOfTexts(t *testing.T) {
	for size := range 203 {
		text := times("n", size)
		for kind := api.TaFile; kind <= api.TaSymlink; kind++ {
			x := api.TarEntry{Kind: kind, Name: text}
			if kind == api.TaLink || kind == api.TaSymlink {
				x.To = "t"
				writes(t, api.TarEntry{Kind: kind, Name: "n", To: text})
			}
			writes(t, x)
			if size == 0 || size > maxPath {
				refuses(t, api.ErrArg, x)
				continue
			}
			want := 512 + 1024
			if size > 100 {
				want += 1024
			}
			if s := written(t, x); len(s) != want {
				t.Errorf("a name of %d bytes: %d bytes; want %d", size, len(s), want)
			}
		}
	}
	sizes := []int{0, 1, 2, 98, 99, 100, 101, 102, 150, 199, 200, 201, 400}
	for _, name := range sizes {
		for _, to := range sizes {
			for kind := api.TaFile; kind <= api.TaSymlink; kind++ {
				writes(t, api.TarEntry{Kind: kind, Name: times("n", name), To: times("t", to), Mode: 0o751})
			}
		}
	}
}

// P15.2: each byte in names and targets, at the front, within, at the end; 0 alone may not be.
func TestWriteBytesOfTexts(t *testing.T) {
	for b := range 256 {
		c := string([]byte{byte(b)})
		for _, text := range []string{c, c + "a", "a" + c, "a" + c + "b", times("a", 99) + c, c + times("a", 99), times("a", 100) + c, times("a", 99) + c + "b", times("a", 199) + c, times("a", 200) + c} {
			name := api.TarEntry{Kind: api.TaDir, Name: text}
			to := api.TarEntry{Kind: api.TaLink, Name: "a", To: text}
			writes(t, name)
			writes(t, to)
			if b == 0 {
				refuses(t, api.ErrArg, name)
				refuses(t, api.ErrArg, to)
			}
		}
	}
	for _, text := range []string{"a=b", "12 path=x\n", "\n", " ", "=", " =\n", "ustar\x01", "ä", "\xff\xfe", "/", "//", ".", "..", "/a", "a/", "a//b"} {
		writes(t, api.TarEntry{Kind: api.TaSymlink, Name: text, To: text})
		writes(t, api.TarEntry{Kind: api.TaSymlink, Name: text + times("n", 101), To: text + times("t", 102)})
	}
}

// P15.2: all modes, and beyond them.
func TestWriteModes(t *testing.T) {
	for mode := -2; mode <= 4097; mode++ {
		x := api.TarEntry{Kind: api.TaFile, Name: "a", Mode: mode}
		writes(t, x)
		if s, e := Write([]api.TarEntry{x}); e == api.OK && s[100:108] != fmt.Sprintf("%07o\x00", mode) {
			t.Errorf("mode %o: %q", mode, s[100:108])
		}
	}
	const far = 1 << 62
	for _, mode := range []int{-1, 4096, 1 << 12, 1 << 32, far, -far, far + far - 1, -far - far, 4096 + 0o644, 1<<32 + 1} {
		refuses(t, api.ErrArg, api.TarEntry{Kind: api.TaFile, Name: "a", Mode: mode})
	}
}

// P15.2: data of all sizes about blocks' edges, and of all bytes.
func TestWriteData(t *testing.T) {
	for size := range 1100 {
		s := written(t, api.TarEntry{Kind: api.TaFile, Name: "a", Data: times("x", size)})
		if want := 512 + (size+511)/512*512 + 1024; len(s) != want || s[124:136] != fmt.Sprintf("%011o\x00", size) || s[512:512+size] != times("x", size) || !none(s[512+size:]) {
			t.Errorf("%d bytes: %d, %q", size, len(s), s[124:136])
		}
	}
	for _, size := range []int{0, 1, 511, 512, 513, 1023, 1024, 1025, 65535, 65536, 65537, 1 << 21} {
		writes(t, api.TarEntry{Kind: api.TaFile, Name: "a", Data: times("x", size)}, api.TarEntry{Kind: api.TaDir, Name: "b"})
	}
	for b := range 256 {
		c := string([]byte{byte(b)})
		writes(t, api.TarEntry{Kind: api.TaFile, Name: "a", Data: c}, api.TarEntry{Kind: api.TaFile, Name: "b", Data: times(c, 512)}, api.TarEntry{Kind: api.TaFile, Name: "c", Data: times(c, 513)})
	}
	// Data that could be taken for other blocks.
	writes(t, api.TarEntry{Kind: api.TaFile, Name: "a", Data: times("\x00", 2048)}, api.TarEntry{Kind: api.TaFile, Name: "b", Data: written(t, some()...)}, api.TarEntry{Kind: api.TaDir, Name: "c"})
}

// P15.2: a record counts its length's own digits, also where these are more by that.
func TestRecordLengths(t *testing.T) {
	for _, key := range []string{"", "k", keyPath, keyLink} {
		for size := range 1200 {
			text := times("v", size)
			s := record(key, text)
			if n, rest, _ := strings.Cut(s, " "); n != strconv.Itoa(len(s)) || rest != key+"="+text+"\n" {
				t.Errorf("a record of %s, with %d bytes: %s, and %d in all", cut(key), size, n, len(s))
			}
		}
	}
}

// P15.2: entries by chance, many of them.
func TestWriteByChance(t *testing.T) {
	r := &numbers{last: 1}
	for range 1500 {
		l := make([]api.TarEntry, r.below(8))
		for i := range l {
			l[i] = r.entry()
		}
		writes(t, l...)
		if len(l) == 0 {
			continue
		}
		switch x := &l[r.below(len(l))]; r.below(6) {
		case 0:
			x.Kind = r.below(7)
		case 1:
			x.Name = r.one([]string{"", "\x00", "a\x00b", times("n", 201)})
		case 2:
			x.To = r.one([]string{"", "\x00", "a\x00b", times("n", 201), "b"})
		case 3:
			x.Mode = r.below(9000) - 1000
		case 4:
			x.Data = r.one([]string{"", "d", "\x00"})
		}
		writes(t, l...)
	}
}

// P15.2: a library reads what is written as it was.
func TestWriteForALibrary(t *testing.T) {
	r := &numbers{last: 2}
	l := some()
	for range 100 {
		x := r.entry()
		// Names that end with a / are directories there.
		x.Name, x.To = "n"+times("a", len(x.Name)-1), times("t", len(x.To))
		l = append(l, x)
	}
	from := library.NewReader(strings.NewReader(written(t, l...)))
	kinds := map[byte]int{library.TypeReg: api.TaFile, library.TypeDir: api.TaDir, library.TypeLink: api.TaLink, library.TypeSymlink: api.TaSymlink}
	for _, x := range l {
		h, err := from.Next()
		if err != nil {
			t.Fatal(err)
		}
		data, err := io.ReadAll(from)
		if got := (api.TarEntry{Kind: kinds[h.Typeflag], Name: h.Name, To: h.Linkname, Mode: int(h.Mode), Data: string(data)}); got != x || err != nil {
			t.Errorf("%s is %s there, %v", shown([]api.TarEntry{x}), shown([]api.TarEntry{got}), err)
		}
		if h.Uid != 0 || h.Gid != 0 || h.Uname != "" || h.Gname != "" || h.ModTime.Unix() != 0 {
			t.Errorf("%+v", h)
		}
	}
	if _, err := from.Next(); err != io.EOF {
		t.Error(err)
	}
}

// P15.1: nothing, less than a block, and blocks of bytes 0.
func TestReadEnds(t *testing.T) {
	for size := range 512 {
		fails(t, times("\x00", size), api.ErrForm)
		fails(t, times("x", size), api.ErrForm)
		fails(t, file("a", "b")[:size], api.ErrForm)
		fails(t, file("a", "b")+times("\x00", size), api.ErrForm)
		fails(t, times("\x00", 512+size), api.ErrForm)
		fails(t, file("a", "b")+times("\x00", 512+size), api.ErrForm)
	}
	for _, size := range []int{1024, 1025, 1200, 1535, 1536, 1537, 2048, 10240, 1 << 20, 1<<20 + 1} {
		reads(t, times("\x00", size), nil, api.OK)
		reads(t, file("a", "b")+times("\x00", size), one("a", "b"), api.OK)
	}
}

// P15.1: a byte that is not 0 behind the end, at each place.
func TestReadBehindTheEnd(t *testing.T) {
	for _, size := range []int{1024, 1025, 1536, 2048} {
		for at := 512; at < size; at++ {
			for _, c := range []string{"\x01", " ", "0", "\x80", "\xff"} {
				tail := times("\x00", at) + c + times("\x00", size-at-1)
				fails(t, tail, api.ErrForm)
				fails(t, file("a", "b")+tail, api.ErrForm)
			}
		}
	}
	reads(t, file("a", "")+end, one("a", ""), api.OK)
	fails(t, file("a", "")+end+"x", api.ErrForm)
	fails(t, file("a", "")+end+"\x00x\x00", api.ErrForm)
	fails(t, file("a", "")+end+file("b", "")+end, api.ErrForm)
	fails(t, file("a", "")+times("\x00", 512)+file("b", "")+end, api.ErrForm)
	// A byte in the first of these blocks: it is no head.
	for at := range 512 {
		fails(t, times("\x00", at)+"\x01"+times("\x00", 2047-at), api.ErrForm)
	}
}

// P15.1: each byte of heads as each other one, with the sum as it was, and made right.
func TestReadEachByteOfAHead(t *testing.T) {
	heads := []string{
		plain("0", "ab", 3).block(),
		headOf("1", times("n", 100), times("t", 100), 0o7777, 0),
		raw{name: "n", mode: "  17 \x00 ", owner: "o", group: "g", size: "         7\x00 ", time: "t", kind: "x", link: "l", magic: "ustar\x00", version: "00", others: times("o", 80), prefix: times("p", 50), rest: times("r", 12)}.block(),
	}
	for i, h := range heads {
		behind := full(line("a", "bc")) + file("z", "y") + end
		if i == 1 {
			behind = end
		}
		for at := range 512 {
			for b := range 256 {
				if i > 0 && b%7 != i && b != '0' && b != ' ' && b != 0 && b != '8' {
					continue
				}
				s := h[:at] + string([]byte{byte(b)}) + h[at+1:]
				asWords(t, s+behind)
				if at < 148 || at > 155 {
					asWords(t, summed(s)+behind)
				}
			}
		}
	}
}

// P15.1, P15.3: with another sum a head is none, whichever byte it is that is another one.
func TestReadOtherSums(t *testing.T) {
	for _, h := range []string{plain("0", "ab", 0).block(), headOf("5", times("n", 100), "", 0o7777, 0), headOf("1", "n", times("t", 100), 0, 0)} {
		for at := range 512 {
			if at >= 148 && at < 156 {
				continue
			}
			for _, more := range []byte{1, 2, 128, 255} {
				fails(t, h[:at]+string([]byte{h[at] + more})+h[at+1:]+end, api.ErrForm)
			}
		}
		sum := total(h)
		for n := range 1 << 18 {
			s := h[:148] + fmt.Sprintf("%06o\x00 ", n) + h[156:] + end
			if _, e := Read(s); (e == api.OK) != (n == sum) {
				t.Errorf("sum %d: %d; it is %d", n, int(e), sum)
			}
		}
	}
}

// P15.1: bytes that mean nothing may be any; but they are in the sum.
func TestReadWhatMeansNothing(t *testing.T) {
	for b := range 256 {
		c := string([]byte{byte(b)})
		r := plain("0", "a", 2)
		r.owner, r.group, r.time, r.others, r.rest = times(c, 8), times(c, 8), times(c, 12), times(c, 80), times(c, 12)
		reads(t, r.block()+full("hi")+end, one("a", "hi"), api.OK)
		for _, at := range []int{108, 115, 116, 123, 136, 147, 265, 344, 500, 511} {
			s := r.block()
			fails(t, s[:at]+string([]byte{byte(b + 1)})+s[at+1:]+full("hi")+end, api.ErrForm)
		}
	}
}

// P15.1: magic and version.
func TestReadMagic(t *testing.T) {
	for _, m := range []string{"", "ustar", "ustar\x00", "ustar ", "ustar\x01", "Ustar\x00", "ustaR\x00", "\x00ustar", "ustar0", " star\x00"} {
		for _, v := range []string{"00", "", " \x00", "01", "10", "0", "0 ", "\x000", "  "} {
			r := plain("0", "a", 0)
			r.magic, r.version = m, v
			asWords(t, r.block()+end)
			if right := (m == "ustar" || m == "ustar\x00") && v == "00"; right {
				reads(t, r.block()+end, one("a", ""), api.OK)
			} else {
				fails(t, r.block()+end, api.ErrForm)
			}
		}
	}
}

// fieldTexts are texts of fields of size bytes: of which some are numbers, the others not.
func fieldTexts(size int) []string {
	var l []string
	for _, digits := range []string{"", "0", "7", "17", "007", "644", "8", "9", "1 7", "1\x007", "-1", "+1", "a", "0x1", "1_7", "\xff", "1\t", "\n1", "18", "81", "1/", "1:", "١"} {
		for _, ahead := range []string{"", " ", "  ", "\x00", " \x00", "\t", "\x00 "} {
			for _, behind := range []string{"", " ", "\x00", " \x00", "\x00 ", "  \x00\x00", "\t", "x", "\x00x", " 7", "\x007"} {
				for _, fill := range []string{"\x00", " "} {
					if s := ahead + digits + behind; len(s) <= size {
						l = append(l, s+times(fill, size-len(s)))
						l = append(l, times(" ", size-len(s))+s)
						l = append(l, ahead+times("0", size-len(s))+digits+behind)
					}
				}
			}
		}
	}
	return l
}

// P15.1: fields of numbers, of all forms, in each place.
func TestReadNumbers(t *testing.T) {
	for _, s := range fieldTexts(8) {
		r := plain("0", "a", 0)
		r.mode = s
		asWords(t, r.block()+end)
		n, ok := numberAs(s)
		if !ok {
			fails(t, r.block()+end, api.ErrForm)
			continue
		}
		reads(t, r.block()+end, []api.TarEntry{{Kind: api.TaFile, Name: "a", Mode: n & 4095}}, api.OK)
	}
	data := times("d", 1024)
	for _, s := range fieldTexts(12) {
		for _, kind := range []string{"0", "5", "x"} {
			r := plain(kind, "a", 0)
			r.size = s
			asWords(t, r.block()+data[:512]+end)
			asWords(t, r.block()+data+end)
			asWords(t, r.block()+end)
		}
		r := plain("0", "a", 0)
		r.size = s
		n, ok := numberAs(s)
		blocks := (n + 511) / 512 * 512
		if !ok {
			fails(t, r.block()+end, api.ErrForm)
		} else if n <= len(data) {
			reads(t, r.block()+data[:blocks]+end, one("a", data[:n]), api.OK)
		}
	}
}

// P15.1: the sum, of all forms.
func TestReadSumForms(t *testing.T) {
	r := plain("0", "a", 0)
	right := fmt.Sprintf("%o", total(r.block()))
	for _, s := range []string{
		right, "0" + right, "00" + right, "000" + right, "0000" + right, " " + right, "  " + right, "   " + right, "    " + right, " 0" + right, "  00" + right,
		right + " ", right + "\x00 ", right + " \x00", right + "  ", right + "    ", right + "\x00\x00\x00\x00", right + "  \x00 ", " " + right + "   ", "  " + right + "\x00 ",
	} {
		r.sum = s
		reads(t, r.block()+end, one("a", ""), api.OK)
	}
	for _, s := range []string{
		"0", " ", "\x00" + right, " \x00" + right, right + "0", right + "x", right + "\x00x", right + " 0", right + "\x000", right[:2] + " " + right[2:], right[:2] + "\x00" + right[2:],
		"-" + right, "+" + right, "\t" + right, right + "\t", right + "\n", right[:3] + "8", "8" + right[1:], "1" + right, "0x" + right, "        ",
	} {
		r.sum = s
		fails(t, r.block()+end, api.ErrForm)
	}
	r.sum = "\x00"
	fails(t, r.block()+end, api.ErrForm)
	// The greatest sum: nearly all bytes are 255.
	r = raw{name: times("\xff", 100), mode: "7777777\x00", owner: times("\xff", 8), group: times("\xff", 8), size: "0", time: times("\xff", 12), kind: "0", link: times("\xff", 100), magic: "ustar\x00", version: "00", others: times("\xff", 80), prefix: times("\xff", 99), rest: times("\xff", 12)}
	reads(t, r.block()+end, []api.TarEntry{{Kind: api.TaFile, Name: times("\xff", 99) + "/" + times("\xff", 100), Mode: 4095}}, api.OK)
}

// P15.1: the greatest numbers that fields of a head have.
func TestReadGreatNumbers(t *testing.T) {
	for _, s := range []string{"777777777777", "77777777777\x00", "100000000000", " 77777777777", "400000000000", "000000000001", "00000003777\x00", "00000004000\x00"} {
		for _, kind := range []string{"0", "\x00", "1", "2", "5", "x"} {
			r := plain(kind, "a", 0)
			r.size, r.link = s, "b"
			asWords(t, r.block()+end)
			fails(t, r.block()+end, api.ErrForm)
		}
	}
	for _, s := range []string{"77777777", "10000000", "07777777", "40000000", "00010000", "70007070", "00007777", "7777777\x00", " 10644\x00 "} {
		r := plain("5", "a", 0)
		r.mode = s
		n, _ := numberAs(s)
		reads(t, r.block()+end, []api.TarEntry{{Kind: api.TaDir, Name: "a", Mode: n & 4095}}, api.OK)
	}
}

// P15.1: the mode's lowest 12 bits count.
func TestReadModes(t *testing.T) {
	for _, mode := range []int{0, 1, 0o644, 0o7777, 0o10000, 0o10001, 0o100644, 0o120777, 0o40755, 0o7777777, 0o77777777, 0o77770000} {
		for i, kind := range []string{"0", "5", "1", "2"} {
			r := plain(kind, "a", 0)
			r.mode, r.link = fmt.Sprintf("%08o", mode), "b"
			x := api.TarEntry{Kind: i + 1, Name: "a", Mode: mode & 4095}
			if i > 1 {
				x.To = "b"
			}
			reads(t, r.block()+end, []api.TarEntry{x}, api.OK)
		}
	}
	for bit := range 24 {
		r := plain("0", "a", 0)
		r.mode = fmt.Sprintf("%08o", 1<<bit)
		reads(t, r.block()+end, []api.TarEntry{{Kind: api.TaFile, Name: "a", Mode: 1 << bit % 4096}}, api.OK)
	}
}

// P15.1: each byte as a type, without a size, and with one.
func TestReadTypes(t *testing.T) {
	for b := range 256 {
		kind := string([]byte{byte(b)})
		r := plain(kind, "a", 0)
		r.link = "b"
		asWords(t, r.block()+end)
		asWords(t, r.block()+file("c", "d")+end)
		sized := plain(kind, "a", 3)
		sized.link = "b"
		asWords(t, sized.block()+full("hey")+end)
		asWords(t, sized.block()+end)
		asWords(t, noted(line("path", "p"))+r.block()+end)
		if strings.Contains("0\x00125x", kind) {
			continue
		}
		for _, s := range []string{r.block() + end, sized.block() + full("hey") + end, sized.block() + end, r.block(), noted("") + r.block() + end, noted(line("size", "x")) + r.block() + end, noted(line("path", "")) + r.block() + end} {
			fails(t, s, api.ErrKind)
		}
		r.name, r.link = "", ""
		fails(t, r.block()+end, api.ErrKind)
		r.name, r.prefix = times("n", 100), times("p", 155)
		fails(t, r.block()+end, api.ErrKind)
	}
	reads(t, plain("\x00", "a", 2).block()+full("hi")+end, one("a", "hi"), api.OK)
	reads(t, plain("0", "a", 2).block()+full("hi")+end, one("a", "hi"), api.OK)
	for kind, want := range map[string]api.TarEntry{"1": {Kind: api.TaLink, Name: "a", To: "b", Mode: 0o644}, "2": {Kind: api.TaSymlink, Name: "a", To: "b", Mode: 0o644}, "5": {Kind: api.TaDir, Name: "a", Mode: 0o644}} {
		r := plain(kind, "a", 0)
		r.link = "b"
		reads(t, r.block()+end, []api.TarEntry{want}, api.OK)
	}
}

// P15.1: a size where none may stand, whether its bytes are there or not.
func TestReadSizesOfOthers(t *testing.T) {
	for _, kind := range []string{"1", "2", "5"} {
		for _, size := range []int{1, 2, 511, 512, 513, 1 << 32} {
			r := plain(kind, "a", size)
			r.link = "b"
			fails(t, r.block()+end, api.ErrForm)
			fails(t, r.block()+times("x", 512)+end, api.ErrForm)
			fails(t, r.block()+times("\x00", 1024)+end, api.ErrForm)
		}
	}
}

// P15.1: data of all sizes about blocks' edges, with whatever fills them up, and cut off.
func TestReadData(t *testing.T) {
	for _, size := range []int{0, 1, 2, 510, 511, 512, 513, 1023, 1024, 1025} {
		blocks := (size + 511) / 512 * 512
		for _, kind := range []string{"0", "\x00"} {
			h := plain(kind, "a", size).block()
			for _, fill := range []string{"\x00", "x", "\xff"} {
				data := times("d", size)
				filled := data + times(fill, blocks-size)
				reads(t, h+filled+end, one("a", data), api.OK)
				reads(t, h+filled+file("b", "c")+end, append(one("a", data), one("b", "c")...), api.OK)
				for n := range blocks + 512 {
					fails(t, h+filled[:min(n, blocks)]+end[:max(0, n-blocks)], api.ErrForm)
				}
			}
		}
	}
	// Data of bytes 0 is no end, and a file without data has none.
	reads(t, plain("0", "a", 2048).block()+times("\x00", 2048)+end, one("a", times("\x00", 2048)), api.OK)
	fails(t, plain("0", "a", 3000).block()+end, api.ErrForm)
	fails(t, plain("0", "a", 1025).block()+times("x", 1024)+end[:512], api.ErrForm)
	fails(t, plain("0", "a", 1<<30).block()+end, api.ErrForm)
	data := times("0123456789abcde\x00", 1<<17)
	reads(t, plain("0", "a", len(data)).block()+data+end, one("a", data), api.OK)
}

// P15.1: fields of text with a byte 0 early, and with none at all.
func TestReadTexts(t *testing.T) {
	for _, x := range [][2]string{
		{"a", "a"}, {"a\x00b", "a"}, {"ab\x00\x00c", "ab"}, {"a\x00" + times("x", 98), "a"}, {times("n", 98), times("n", 98)}, {times("n", 99), times("n", 99)}, {times("n", 100), times("n", 100)}, {times("n", 99) + "\x00", times("n", 99)},
		{" a ", " a "}, {"a\n=", "a\n="}, {"\xff\xfe", "\xff\xfe"}, {"ä", "ä"}, {"/", "/"}, {"../x", "../x"},
	} {
		reads(t, plain("0", x[0], 1).block()+full("d")+end, one(x[1], "d"), api.OK)
		r := plain("2", "a", 0)
		r.link = x[0]
		reads(t, r.block()+end, []api.TarEntry{{Kind: api.TaSymlink, Name: "a", To: x[1], Mode: 0o644}}, api.OK)
		r.kind = "1"
		reads(t, r.block()+end, []api.TarEntry{{Kind: api.TaLink, Name: "a", To: x[1], Mode: 0o644}}, api.OK)
		r = plain("0", x[0], 0)
		r.prefix = x[0]
		if both := x[1] + "/" + x[1]; len(both) > maxPath {
			fails(t, r.block()+end, api.ErrLong)
		} else {
			reads(t, r.block()+end, one(both, ""), api.OK)
		}
	}
	for _, name := range []string{"", "\x00", "\x00a", "\x00" + times("x", 99)} {
		fails(t, plain("0", name, 0).block()+end, api.ErrForm)
		r := plain("1", "a", 0)
		r.link = name
		fails(t, r.block()+end, api.ErrForm)
		r.kind = "2"
		fails(t, r.block()+end, api.ErrForm)
		// What is no link has no target.
		r.kind = "5"
		reads(t, r.block()+end, []api.TarEntry{{Kind: api.TaDir, Name: "a", Mode: 0o644}}, api.OK)
	}
}

// P15.1: a prefix, and what it makes of a name.
func TestReadPrefix(t *testing.T) {
	for _, x := range []struct{ prefix, name, want string }{
		{"", "a", "a"}, {"\x00p", "a", "a"}, {"p", "a", "p/a"}, {"p/q", "a", "p/q/a"}, {"p/", "a", "p//a"}, {"p\x00q", "a", "p/a"}, {"p", "", "p/"}, {"p", "\x00a", "p/"}, {"/", "/", "///"}, {" ", "a", " /a"},
		{times("p", 155), "a", times("p", 155) + "/a"}, {times("p", 154) + "\x00", "a", times("p", 154) + "/a"}, {times("p", 155), times("n", 44), times("p", 155) + "/" + times("n", 44)},
		{times("p", 99), times("n", 100), times("p", 99) + "/" + times("n", 100)}, {"p", times("n", 100), "p/" + times("n", 100)},
	} {
		r := plain("0", x.name, 2)
		r.prefix = x.prefix
		reads(t, r.block()+full("hi")+end, one(x.want, "hi"), api.OK)
		r = plain("5", x.name, 0)
		// What stands around it is no part of it.
		r.prefix, r.others, r.rest = x.prefix, times("o", 80), times("r", 12)
		reads(t, r.block()+end, []api.TarEntry{{Kind: api.TaDir, Name: x.want, Mode: 0o644}}, api.OK)
	}
	for _, x := range [][2]int{{155, 45}, {155, 100}, {154, 46}, {100, 100}} {
		r := plain("0", times("n", x[1]), 0)
		r.prefix = times("p", x[0])
		fails(t, r.block()+end, api.ErrLong)
	}
	for prefix := range 156 {
		for name := range 101 {
			r := plain("0", times("n", name), 0)
			r.prefix = times("p", prefix)
			asWords(t, r.block()+end)
		}
	}
}

// P15.1: records in the place of what the head has.
func TestReadRecords(t *testing.T) {
	head := file("a", "hi")
	for _, x := range []struct{ records, name, data string }{
		{"", "a", "hi"}, {line("path", "b"), "b", "hi"}, {line("path", "b") + line("path", "c"), "c", "hi"}, {line("path", "") + line("path", "c"), "c", "hi"}, {line("path", times("x", 201)) + line("path", "c"), "c", "hi"},
		{line("size", "1"), "a", "h"}, {line("size", "0001"), "a", "h"}, {line("size", "9") + line("size", "1"), "a", "h"}, {line("size", "x") + line("size", "1"), "a", "h"}, {line("size", "") + line("size", "2"), "a", "hi"}, {line("size", "512"), "a", full("hi")},
		{line("a", "b"), "a", "hi"}, {line("a", ""), "a", "hi"}, {line("", "b"), "a", "hi"}, {line("", ""), "a", "hi"}, {line("Path", "b"), "a", "hi"}, {line("path ", "b"), "a", "hi"}, {line(" path", "b"), "a", "hi"}, {line("pat", "b"), "a", "hi"}, {line("paths", "b"), "a", "hi"}, {line("name", "b"), "a", "hi"},
		{line("linkpath", "b"), "a", "hi"}, {line("linkpath", ""), "a", "hi"}, {line("linkpath", "\x00"), "a", "hi"}, {line("linkpath", times("x", 300)), "a", "hi"},
		{line("mtime", "1.5") + line("path", "b") + line("uid", "7") + line("size", "1") + line("gname", "\xff"), "b", "h"},
		{line("path", "b=c"), "b=c", "hi"}, {line("path", "="), "=", "hi"}, {line("path", "b\nc"), "b\nc", "hi"}, {line("path", "\n"), "\n", "hi"}, {line("path", "b\n9 path=c"), "b\n9 path=c", "hi"}, {line("path", " b "), " b ", "hi"}, {line("path", "/"), "/", "hi"},
		{line("a\nb", "c"), "a", "hi"}, {line("a\x00b", "\x00"), "a", "hi"}, {line("a b c", "d e"), "a", "hi"}, {line("k", times("v", 5000)) + line("path", "b"), "b", "hi"}, {times(line("k", "v"), 1000) + line("path", "b"), "b", "hi"},
	} {
		reads(t, noted(x.records)+head+end, one(x.name, x.data), api.OK)
		reads(t, noted(x.records)+head+file("c", "d")+end, append(one(x.name, x.data), one("c", "d")...), api.OK)
		reads(t, noted(line("path", "z"))+file("y", "")+noted(x.records)+head+noted(line("path", "w"))+file("v", "u")+end, slices.Concat(one("z", ""), one(x.name, x.data), one("w", "u")), api.OK)
	}
}

// P15.1: records that are none.
func TestReadRecordsThatAreNone(t *testing.T) {
	for _, records := range []string{
		"x", "9", " ", "\n", "=", "\x00", "9 ", "9 path=b", "9 path=", "path=b\n", " path=b\n", "= path\n",
		"8 path=b\n", "1 path=b\n", "2 path=b\n", "0 path=b\n", "7 path=b\n", "11 path=b\n", "99 path=b\n", "09 path=b\n", "010 path=b\n", "0 \n", "00 path=b\n", "-9 path=b\n", "+9 path=b\n", "9x path=b\n", "x9 path=b\n", "9.0 path=b\n", "0x9 path=b\n", "1_0 path=b\n", " 9 path=b\n",
		"9\tpath=b\n", "9\x00path=b\n", "9path=bb\n", "9=path b\n", "9 path:b\n", "9 pathbb\n", "6 abc\n", "6 a=b\r", "6 a=bc", "6 a=b\x00", "5 a=b\n", "7 a=b\n", "2\n", "3 \n", "2 ", "3 =", "1", "1\n", "4 a\n", "5 ab\n",
		"9223372036854775808 path=b\n", "18446744073709551625 path=b\n", "1099511627776 path=b\n", "1099511627785 path=b\n", "4294967305 path=b\n", times("9", 100) + " path=b\n", times("0", 100) + "9 path=b\n", times("9", 5000),
		line("path", "b") + "x", line("path", "b") + "\n", line("path", "b") + " ", line("path", "b") + "\x00", "\n" + line("path", "b"), "\x00" + line("path", "b"), line("path", "b") + "6 abc\n", line("path", "b") + "0 a=b\n", line("path", "b") + "7 a=b\n",
		line("a", "b") + line("path", "b")[:8], line("path", "b")[:8] + line("a", "b"), line("path", "b") + line("a", "b")[1:], "6 a=b\n\n", "6 a=b\n6 a=b",
	} {
		asWords(t, noted(records)+file("a", "hi")+end)
		fails(t, noted(records)+file("a", "hi")+end, api.ErrForm)
		fails(t, noted(records), api.ErrForm)
		// They are wrong where they stand, not only where they are needed.
		fails(t, noted(records)+plain("g", "a", 0).block()+end, api.ErrForm)
		fails(t, noted(records)+raw{name: "no head"}.block()+end, api.ErrForm)
		long := plain("0", times("n", 100), 0)
		long.prefix = times("p", 155)
		fails(t, noted(records)+long.block()+end, api.ErrForm)
	}
}

// P15.1: the length is that of all of the record, where its digits get more, too.
func TestReadRecordLengths(t *testing.T) {
	for size := range 1100 {
		if size > 120 && size < 960 {
			continue
		}
		text := times("v", size)
		s := line("k", text)
		n := len(s)
		rest := s[strings.Index(s, " "):]
		for _, told := range []int{n - 10, n - 2, n - 1, n, n + 1, n + 2, n + 10} {
			records := strconv.Itoa(told) + rest
			for _, behind := range []string{"", line("path", "b"), "\n\n\n\n\n\n\n\n\n\n\n\n"} {
				asWords(t, noted(records+behind)+file("a", "")+end)
			}
			// Of two lengths, one digit apart, both can be right.
			name := times("b", 50)
			if told == len(records) {
				reads(t, noted(records+line("path", name))+file("a", "")+end, one(name, ""), api.OK)
			} else if told > 0 {
				fails(t, noted(records+line("path", name))+file("a", "")+end, api.ErrForm)
			}
		}
	}
	// Lengths at which one more byte makes two more of the record, and those beside.
	for _, x := range []struct {
		size, all int
	}{{3, 8}, {4, 9}, {5, 11}, {92, 98}, {93, 99}, {94, 101}, {991, 998}, {992, 999}, {993, 1001}} {
		s := line("k", times("v", x.size))
		if len(s) != x.all {
			t.Errorf("a record of %d bytes: %d; want %d", x.size, len(s), x.all)
		}
		reads(t, noted(s)+file("a", "")+end, one("a", ""), api.OK)
	}
	// Of two lengths both can be right, of others none.
	for _, both := range []string{"9 k=vvvv\n", "10 k=vvvv\n", "99 k=" + times("v", 93) + "\n", "100 k=" + times("v", 93) + "\n", "999 k=" + times("v", 992) + "\n", "1000 k=" + times("v", 992) + "\n"} {
		reads(t, noted(both)+file("a", "")+end, one("a", ""), api.OK)
	}
	for _, bad := range []string{"8 k=vvvv\n", "11 k=vvvv\n", "9 k=vvvvv\n", "10 k=vvvvv\n", "98 k=" + times("v", 93) + "\n", "101 k=" + times("v", 93) + "\n", "99 k=" + times("v", 94) + "\n", "100 k=" + times("v", 94) + "\n"} {
		fails(t, noted(bad)+file("a", "")+end, api.ErrForm)
	}
}

// P15.1: numbers are less than 2^40, in digits to both bases.
func TestNumbers(t *testing.T) {
	for s, want := range map[string]int{"0": 0, "1": 1, "7": 7, "007": 7, "10": 8, "17777777777777": 1<<40 - 1, "0000017777777777777": 1<<40 - 1} {
		if n, ok := readNumber(s, octal); n != want || !ok {
			t.Errorf("%s, octal: %d, %t", s, n, ok)
		}
	}
	for s, want := range map[string]int{"0": 0, "9": 9, "010": 10, "1099511627775": 1<<40 - 1, "00000001099511627775": 1<<40 - 1} {
		if n, ok := readNumber(s, decimal); n != want || !ok {
			t.Errorf("%s, decimal: %d, %t", s, n, ok)
		}
	}
	for _, s := range []string{"", "8", "18", "81", "20000000000000", "17777777777780", times("7", 22), times("7", 1000)} {
		if n, ok := readNumber(s, octal); n != 0 || ok {
			t.Errorf("%s, octal: %d, %t", cut(s), n, ok)
		}
	}
	for _, s := range []string{"", "a", "1a", "-1", "1099511627776", "1099511627777", "18446744073709551617", times("9", 1000)} {
		if n, ok := readNumber(s, decimal); n != 0 || ok {
			t.Errorf("%s, decimal: %d, %t", cut(s), n, ok)
		}
	}
}

// P15.1: sizes that records tell, of a file.
func TestReadRecordedSizes(t *testing.T) {
	data := times("0123456789", 200)
	for _, size := range []int{0, 1, 2, 511, 512, 513, 1024, 1500, 2000} {
		blocks := (size + 511) / 512 * 512
		for _, own := range []int{0, 1, 512, 2000, 1 << 32} {
			h := noted(line("size", strconv.Itoa(size))) + plain("0", "a", own).block()
			reads(t, h+full(data)[:blocks]+end, one("a", data[:size]), api.OK)
			if size > 0 {
				fails(t, h+full(data)[:blocks-1], api.ErrForm)
			}
		}
	}
	for _, bad := range []string{"", "x", " 1", "1 ", "-1", "+1", "1\x00", "\x001", "1.0", "1e1", "0x1", "1_0", "١", "a1", "1/", "1:", "1\n", "1099511627776", "1099511627777", "2000000000000", "9223372036854775808", "18446744073709551616", "18446744073709551617", times("9", 400)} {
		for _, kind := range []string{"0", "\x00"} {
			fails(t, noted(line("size", bad))+plain(kind, "a", 1).block()+full("d")+end, api.ErrForm)
			fails(t, noted(line("size", "1")+line("size", bad))+plain(kind, "a", 1).block()+full("d")+end, api.ErrForm)
			fails(t, noted(line("size", bad)+line("path", times("x", 201)))+plain(kind, "a", 1).block()+full("d")+end, api.ErrForm)
			reads(t, noted(line("size", bad)+line("size", "1"))+plain(kind, "a", 0).block()+full("d")+end, one("a", "d"), api.OK)
		}
	}
	for _, far := range []string{"1099511627775", "1099511627776", "2147483648", "4294967296", "4294967297"} {
		asWords(t, noted(line("size", far))+plain("0", "a", 1).block()+full("d")+end)
		fails(t, noted(line("size", far))+plain("0", "a", 1).block()+full("d")+end, api.ErrForm)
	}
	for _, digits := range []string{"01", "001", times("0", 400) + "1", times("0", 100000) + "1"} {
		reads(t, noted(line("size", digits))+plain("0", "a", 0).block()+full("d")+end, one("a", "d"), api.OK)
	}
}

// P15.1: a size that records tell of what is no file means nothing; the head's own counts.
func TestReadRecordedSizesOfOthers(t *testing.T) {
	for i, kind := range []string{"5", "1", "2"} {
		for _, size := range []string{"0", "1", "512", "x", "", "1099511627776"} {
			r := plain(kind, "a", 0)
			r.link = "b"
			x := api.TarEntry{Kind: api.TaDir + i, Name: "a", Mode: 0o644}
			if i > 0 {
				x.To = "b"
			}
			reads(t, noted(line("size", size))+r.block()+end, []api.TarEntry{x}, api.OK)
			reads(t, noted(line("size", size))+r.block()+file("c", "d")+end, append([]api.TarEntry{x}, one("c", "d")...), api.OK)
			sized := plain(kind, "a", 1)
			sized.link = "b"
			fails(t, noted(line("size", "0"))+sized.block()+end, api.ErrForm)
			fails(t, noted(line("size", size))+sized.block()+full("d")+end, api.ErrForm)
		}
	}
	// That of one entry is not that of the one behind it.
	reads(t, noted(line("size", "1")+line("path", "p")+line("linkpath", "q"))+plain("5", "a", 0).block()+file("c", "de")+end, append([]api.TarEntry{{Kind: api.TaDir, Name: "p", Mode: 0o644}}, one("c", "de")...), api.OK)
}

// P15.1: records ahead of records, ahead of the end, and of nothing.
func TestReadWhereRecordsStand(t *testing.T) {
	path := noted(line("path", "b"))
	for _, first := range []string{noted(""), path, noted(line("k", "v"))} {
		fails(t, first, api.ErrForm)
		fails(t, first+end, api.ErrForm)
		fails(t, first+end+end, api.ErrForm)
		fails(t, file("a", "")+first+end, api.ErrForm)
		fails(t, first+first+file("a", "")+end, api.ErrForm)
		fails(t, first+noted("")+file("a", "")+end, api.ErrForm)
		fails(t, first+path+file("a", "")+end, api.ErrForm)
		fails(t, first+file("a", "")+first+first+file("a", "")+end, api.ErrForm)
		if l, e := Read(first + file("a", "hi") + file("c", "") + first + file("d", "") + end); e != api.OK || len(l) != 3 || l[1].Name != "c" {
			t.Errorf("%s, %d", shown(l), int(e))
		}
		for n := range 512 {
			fails(t, first+end[:n], api.ErrForm)
		}
	}
	// Cut off within the records, and within what fills them up.
	for n := range len(path) {
		fails(t, path[:n], api.ErrForm)
	}
	// What fills them up may be any; what is in them may not.
	h := plain("x", "r", 9).block()
	reads(t, h+"9 path=b\n"+times("x", 503)+file("a", "")+end, one("b", ""), api.OK)
	fails(t, plain("x", "r", 10).block()+full("9 path=b\n")+file("a", "")+end, api.ErrForm)
	fails(t, plain("x", "r", 8).block()+full("9 path=b\n")+file("a", "")+end, api.ErrForm)
	reads(t, plain("x", "r", 0).block()+file("a", "")+end, one("a", ""), api.OK)
}

// P15.1: whatever the head of records has for itself, but its size, means nothing for the entry.
func TestReadHeadsOfRecords(t *testing.T) {
	for _, name := range []string{"", "pax", "././@PaxHeader", times("n", 100)} {
		r := plain("x", name, 9)
		r.prefix, r.link, r.mode = name, name, "7777777\x00"
		reads(t, r.block()+full(line("path", "b"))+file("a", "hi")+end, one("b", "hi"), api.OK)
	}
	r := plain("x", "r", 0)
	r.prefix = times("p", 155)
	reads(t, r.block()+file("a", "hi")+end, one("a", "hi"), api.OK)
}

// P15.1: names of all sizes, by records and by the head.
func TestReadSizesOfNames(t *testing.T) {
	for size := range 260 {
		text := times("n", size)
		want := textAs(text)
		var l []api.TarEntry
		if want == api.OK {
			l = one(text, "hi")
		}
		reads(t, noted(line("path", text))+file("a", "hi")+end, l, want)
		reads(t, noted(line("path", text))+file("", "hi")+end, l, want)
		r := plain("0", times("m", 100), 2)
		r.prefix = times("q", 155)
		reads(t, noted(line("path", text))+r.block()+full("hi")+end, l, want)
		if size > 155 && size < 257 {
			r = plain("0", text[156:], 2)
			r.prefix = times("n", 155)
			if l != nil {
				l[0].Name = times("n", 155) + "/" + text[156:]
			}
			reads(t, r.block()+full("hi")+end, l, want)
		}
	}
	for _, name := range []string{"", "\x00", "a\x00", "\x00a", "a\x00b", times("a", 199) + "\x00"} {
		fails(t, noted(line("path", name))+file("a", "hi")+end, api.ErrForm)
	}
	fails(t, noted(line("path", times("a", 200)+"\x00"))+file("a", "hi")+end, api.ErrLong)
	fails(t, noted(line("path", times("\x00", 201)))+file("a", "hi")+end, api.ErrLong)
}

// P15.1: targets of all sizes, by records and by the head.
func TestReadTargets(t *testing.T) {
	for i, kind := range []string{"1", "2"} {
		h := plain(kind, "a", 0)
		for size := range 260 {
			text := times("t", size)
			want := textAs(text)
			var l []api.TarEntry
			if want == api.OK {
				l = []api.TarEntry{{Kind: api.TaLink + i, Name: "a", To: text, Mode: 0o644}}
			}
			h.link = ""
			reads(t, noted(line("linkpath", text))+h.block()+end, l, want)
			h.link = times("u", 100)
			reads(t, noted(line("linkpath", text))+h.block()+end, l, want)
			if size <= 100 {
				h.link = text
				reads(t, h.block()+end, l, want)
				reads(t, noted(line("path", "a"))+h.block()+end, l, want)
			}
		}
		for _, to := range []string{"", "\x00", "a\x00", "\x00a", "a\x00b", times("a", 199) + "\x00"} {
			fails(t, noted(line("linkpath", to))+h.block()+end, api.ErrForm)
		}
		fails(t, noted(line("linkpath", times("a", 200)+"\x00"))+h.block()+end, api.ErrLong)
	}
	// What is no link has none, whatever stands there.
	for i, kind := range []string{"0", "5"} {
		for _, link := range []string{"b", times("b", 100), "\xff"} {
			r := plain(kind, "a", 0)
			r.link = link
			want := []api.TarEntry{{Kind: api.TaFile + i, Name: "a", Mode: 0o644}}
			reads(t, r.block()+end, want, api.OK)
			for _, to := range []string{"", "c", "\x00", times("c", 201)} {
				reads(t, noted(line("linkpath", to))+r.block()+end, want, api.OK)
			}
		}
	}
}

// P15.1: records of a name, of a target, and of both, of both kinds of links.
func TestReadRecordsOfLinks(t *testing.T) {
	for i, kind := range []string{"1", "2"} {
		r := plain(kind, "a", 0)
		r.link = "b"
		for records, want := range map[string][2]string{
			"":                    {"a", "b"},
			line("path", "p"):     {"p", "b"},
			line("linkpath", "l"): {"a", "l"},
			line("path", "p") + line("linkpath", "l"):                                             {"p", "l"},
			line("linkpath", "l") + line("path", "p"):                                             {"p", "l"},
			line("linkpath", "l") + line("linkpath", "m") + line("path", "p") + line("path", "q"): {"q", "m"},
		} {
			reads(t, noted(records)+r.block()+end, []api.TarEntry{{Kind: api.TaLink + i, Name: want[0], To: want[1], Mode: 0o644}}, api.OK)
		}
	}
}

// P15.1: more entries than may be.
func TestReadMany(t *testing.T) {
	var l []api.TarEntry
	for i := range 202 {
		l = append(l, one("f"+strconv.Itoa(i), "d")...)
	}
	all := func(n int) string {
		var b strings.Builder
		for _, x := range l[:n] {
			b.WriteString(file(x.Name, x.Data))
		}
		return b.String()
	}
	for _, n := range []int{199, 200} {
		reads(t, all(n)+end, l[:n], api.OK)
		fails(t, all(n), api.ErrForm)
	}
	for _, n := range []int{201, 202} {
		fails(t, all(n)+end, api.ErrMany)
		fails(t, all(n), api.ErrMany)
	}
	long := plain("0", times("n", 100), 0)
	long.prefix = times("p", 155)
	to := plain("1", "a", 0)
	for next, want := range map[string]api.Errno{
		"x":                                     api.ErrForm,
		times("x", 512):                         api.ErrForm,
		plain("g", "a", 0).block():              api.ErrKind,
		plain("5", "a", 1).block():              api.ErrForm,
		plain("0", "a", 1).block():              api.ErrForm,
		long.block():                            api.ErrLong,
		file("", ""):                            api.ErrForm,
		to.block():                              api.ErrForm,
		file("a", ""):                           api.ErrMany,
		file("a", "") + "x":                     api.ErrMany,
		plain("5", "a", 0).block() + "x":        api.ErrMany,
		noted(""):                               api.ErrForm,
		noted("") + end:                         api.ErrForm,
		noted("x") + file("a", ""):              api.ErrForm,
		noted("") + file("a", ""):               api.ErrMany,
		noted(line("path", "")) + file("a", ""): api.ErrForm,
		end + "x":                               api.ErrForm,
	} {
		asWords(t, all(200)+next)
		fails(t, all(200)+next, want)
	}
	// Records are no entries.
	var b strings.Builder
	for _, x := range l[:200] {
		b.WriteString(noted(line("path", x.Name)) + file("a", x.Data))
	}
	reads(t, b.String()+end, l[:200], api.OK)
	fails(t, b.String()+file("a", "")+end, api.ErrMany)
}

// P15.1: of several errors in one entry the first one is told.
func TestReadFirstInAnEntry(t *testing.T) {
	long, no := times("n", 201), ""
	link := func(path, to string) string {
		return noted(line("path", path)+line("linkpath", to)) + plain("2", "a", 0).block()
	}
	sized := func(r raw, size int) raw {
		r.size = fmt.Sprintf("%011o\x00", size)
		return r
	}
	named := plain("0", times("n", 100), 0)
	named.prefix = times("p", 155)
	bad := named
	bad.magic = "x"
	kind := named
	kind.kind = "z"
	dir := named
	dir.kind = "5"
	for s, want := range map[string]api.Errno{
		bad.block():                           api.ErrForm,
		sized(bad, 9).block():                 api.ErrForm,
		kind.block():                          api.ErrKind,
		sized(kind, 9).block():                api.ErrKind,
		sized(named, 9).block():               api.ErrForm,
		sized(named, 9).block() + "123456789": api.ErrForm,
		sized(named, 9).block() + full("x"):   api.ErrLong,
		sized(dir, 9).block() + full("x"):     api.ErrForm,
		dir.block():                           api.ErrLong,
		link(long, "b"):                       api.ErrLong,
		link("a", long):                       api.ErrLong,
		link(no, "b"):                         api.ErrForm,
		link("a", no):                         api.ErrForm,
		link(long, no):                        api.ErrLong,
		link(no, long):                        api.ErrForm,
		link(long, long):                      api.ErrLong,
		link(no, no):                          api.ErrForm,
		noted(line("path", long)+line("size", "x")) + file("a", "d"):     api.ErrForm,
		noted(line("path", long)+line("size", "600")) + file("a", "d"):   api.ErrForm,
		noted(line("path", long)+line("size", "x")) + dir.block():        api.ErrLong,
		noted(line("path", long)+line("linkpath", no)) + file("a", "d"):  api.ErrLong,
		noted(line("path", "a")+line("linkpath", long)) + file("a", "d"): api.OK,
		noted(line("size", "x")) + kind.block():                          api.ErrKind,
		noted(line("size", "x")) + bad.block():                           api.ErrForm,
	} {
		if want == api.OK {
			reads(t, s+end, one("a", "d"), api.OK)
			continue
		}
		asWords(t, s)
		fails(t, s, want)
	}
}

// P15.1: of several errors the first one is told, block by block.
func TestReadFirstOfBlocks(t *testing.T) {
	long := plain("0", times("n", 100), 0)
	long.prefix = times("p", 155)
	parts := []string{
		file("a", "hi"), plain("5", "d", 0).block(), noted(line("path", "b")), noted(""), noted("x"), times("\x00", 512), end, "x", times("x", 512),
		plain("g", "a", 0).block(), long.block(), file("", ""), plain("0", "a", 600).block() + full("x"), plain("5", "a", 1).block(), plain("1", "a", 0).block(), file("c", times("\x00", 512)),
	}
	errs := map[api.Errno]int{}
	for _, a := range parts {
		for _, b := range parts {
			for _, c := range parts {
				s := a + b + c
				asWords(t, s)
				asWords(t, s+end)
				_, e := Read(s + end)
				errs[e]++
			}
		}
	}
	for _, e := range []api.Errno{api.OK, api.ErrForm, api.ErrKind, api.ErrLong} {
		if errs[e] == 0 {
			t.Errorf("error %d is never told", int(e))
		}
	}
	fails(t, plain("g", "a", 0).block()+long.block()+end, api.ErrKind)
	fails(t, long.block()+plain("g", "a", 0).block()+end, api.ErrLong)
	fails(t, times("x", 512)+long.block()+end, api.ErrForm)
}

// mixed are bytes by chance, of parts that are mostly right.
func mixed(r *numbers) string {
	texts := []string{"", "a", "a", "b/c", times("n", 100), times("n", 101), times("n", 155), times("n", 200), times("n", 201), "a\x00b", "\x00", "ä"}
	keys := []string{"path", "path", "linkpath", "linkpath", "size", "size", "k", "", "mtime"}
	sizes := []string{"0", "1", "2", "512", "513", "x", "", "1099511627776", "007"}
	var b strings.Builder
	for range r.below(5) {
		if r.below(2) == 0 {
			var l strings.Builder
			for range r.below(4) {
				key := r.one(keys)
				text := r.one(texts)
				if key == "size" {
					text = r.one(sizes)
				}
				l.WriteString(line(key, text))
			}
			s := l.String()
			if at := r.below(len(s) + 30); at < len(s) {
				s = s[:at] + string([]byte{s[at] + byte(r.below(3)) - 1}) + s[at+1:]
			}
			b.WriteString(noted(s))
			if r.below(16) == 0 {
				continue
			}
		}
		size := []int{0, 0, 1, 2, 512, 513}[r.below(6)]
		kind := r.one([]string{"0", "0", "0", "\x00", "1", "2", "5", "x", "g"})
		if kind == "1" || kind == "2" || kind == "5" {
			size *= r.below(8) / 7
		}
		h := plain(kind, "", size)
		h.name, h.link = first(r.one(texts)), first(r.one(texts))
		if r.below(4) == 0 {
			p := r.one(texts)
			h.prefix = p[:min(len(p), 155)]
		}
		h.mode = fmt.Sprintf("%0*o", 1+r.below(3), r.below(4096))
		h.mode = h.mode[:min(len(h.mode), 8)]
		b.WriteString(h.block() + full(times("d", size)))
	}
	if r.below(16) > 0 {
		b.WriteString(times("\x00", 1024+r.below(3)*r.below(700)))
	}
	return b.String()
}

// P15.1: bytes by chance, as they are, with some changed, and cut off.
func TestReadByChance(t *testing.T) {
	r := &numbers{last: 3}
	errs := map[api.Errno]int{}
	for range 20000 {
		s := mixed(r)
		asWords(t, s)
		_, e := Read(s)
		errs[e]++
		if len(s) == 0 {
			continue
		}
		at := r.below(len(s))
		asWords(t, s[:at])
		changed := s[:at] + string([]byte{byte(r.below(256))}) + s[at+1:]
		asWords(t, changed)
		if block := at / 512 * 512; block+512 <= len(s) {
			asWords(t, changed[:block]+summed(changed[block:block+512])+changed[block+512:])
		}
	}
	for _, e := range []api.Errno{api.OK, api.ErrForm, api.ErrKind, api.ErrLong} {
		if errs[e] < 100 {
			t.Errorf("error %d is told %d times", int(e), errs[e])
		}
	}
}

// R1, P15.1: all short texts of some bytes, and texts by chance that are hardly ever right, come to an end.
func TestReadAnything(t *testing.T) {
	r := &numbers{last: 4}
	for range 20000 {
		size := r.below(2000)
		b := make([]byte, size)
		for i := range b {
			b[i] = "\x00\x00\x00\x00\x00 07x=\n\xff"[r.below(12)]
		}
		asWords(t, string(b))
		if size >= 512 {
			asWords(t, summed(string(b[:512]))+string(b[512:]))
		}
	}
	for b := range 256 {
		for _, size := range []int{1, 511, 512, 513, 1024, 4096} {
			asWords(t, times(string([]byte{byte(b)}), size))
		}
	}
}

// P15.1: what a library writes is read.
func TestReadOfALibrary(t *testing.T) {
	l := []api.TarEntry{
		{Kind: api.TaDir, Name: "d/", Mode: 0o755}, {Kind: api.TaFile, Name: "d/f", Mode: 0o4644, Data: times("x", 700)}, {Kind: api.TaLink, Name: "d/l", To: "d/f", Mode: 0o644}, {Kind: api.TaSymlink, Name: "s", To: "../d", Mode: 0o777},
		{Kind: api.TaFile, Name: times("p", 90) + "/" + times("q", 90), Mode: 0o600, Data: "y"}, {Kind: api.TaFile, Name: "e"},
	}
	pax := append(slices.Clone(l), api.TarEntry{Kind: api.TaFile, Name: times("ä", 100), Mode: 1, Data: "z"}, api.TarEntry{Kind: api.TaSymlink, Name: times("n", 150), To: times("t", 199)})
	for format, all := range map[library.Format][]api.TarEntry{library.FormatUSTAR: l, library.FormatPAX: pax} {
		var b strings.Builder
		to := library.NewWriter(&b)
		for _, x := range all {
			h := &library.Header{
				Typeflag: map[int]byte{api.TaFile: library.TypeReg, api.TaDir: library.TypeDir, api.TaLink: library.TypeLink, api.TaSymlink: library.TypeSymlink}[x.Kind],
				Name:     x.Name, Linkname: x.To, Mode: int64(x.Mode), Size: int64(len(x.Data)), Uid: 1000, Gid: 100, Uname: "some", Gname: "body", Format: format,
			}
			if format == library.FormatPAX {
				h.PAXRecords = map[string]string{"LIGHTER.k": "a=b\nc"}
			}
			if err := to.WriteHeader(h); err != nil {
				t.Fatal(err)
			}
			if _, err := io.WriteString(to, x.Data); err != nil {
				t.Fatal(err)
			}
		}
		if err := to.Close(); err != nil {
			t.Fatal(err)
		}
		reads(t, b.String(), all, api.OK)
		asWords(t, b.String())
	}
}

// P15.3: what is written is read as it was, of each kind, with texts of all sizes.
func TestWrittenIsRead(t *testing.T) {
	r := &numbers{last: 5}
	for range 300 {
		l := make([]api.TarEntry, r.below(12))
		for i := range l {
			l[i] = r.entry()
		}
		reads(t, written(t, l...), l, api.OK)
	}
	full := make([]api.TarEntry, 200)
	for i := range full {
		full[i] = r.entry()
	}
	reads(t, written(t, full...), full, api.OK)
	reads(t, written(t, full...)+times("\x00", 777), full, api.OK)
}

// P15.3: what is cut off, anywhere, is none.
func TestCutOff(t *testing.T) {
	for _, l := range [][]api.TarEntry{nil, one("a", ""), one("a", times("\x00", 1500)), some()} {
		s := written(t, l...)
		for n := range len(s) {
			if got, e := Read(s[:n]); e != api.ErrForm || got != nil {
				t.Errorf("%d of %d bytes: %s, %d", n, len(s), shown(got), int(e))
			}
		}
	}
	// Of entries with all errors ahead, only what is there counts.
	fails(t, written(t, some()...)[:1024]+times("\x00", 1023), api.ErrForm)
}

// P15.3: of what is written each byte of a head that means something, made another one, makes it none; also a byte of records.
func TestWrittenByteByByte(t *testing.T) {
	s := written(t, some()...)
	heads, at := map[int]bool{}, 0
	for at < len(s)-1024 {
		heads[at] = true
		size, _ := numberAs(s[at+124 : at+136])
		at += 512 + (size+511)/512*512
	}
	if len(heads) != 6+3 {
		t.Fatalf("%d heads", len(heads))
	}
	for at := range len(s) {
		for _, more := range []byte{1, 16, 200} {
			changed := s[:at] + string([]byte{s[at] + more}) + s[at+1:]
			asWords(t, changed)
			if in := at % 512; heads[at/512*512] && (in < 148 || in > 155) {
				fails(t, changed, api.ErrForm)
			}
		}
	}
}

// within tells whether a text lies in another one.
func within(s, of string) bool {
	if s == "" || of == "" {
		return false
	}
	at, from := uintptr(unsafe.Pointer(unsafe.StringData(s))), uintptr(unsafe.Pointer(unsafe.StringData(of)))
	return at >= from && at < from+uintptr(len(of))
}

// R4, rules: entries that are handed in stay as they were, and what is told shares nothing with what was handed in.
func TestNothingIsShared(t *testing.T) {
	l := append(some(), one("only", "data")...)
	kept := slices.Clone(l)
	s := written(t, l...)
	if !slices.Equal(l, kept) {
		t.Error("Write changed its entries")
	}
	for _, x := range l {
		for _, text := range []string{x.Name, x.To, x.Data} {
			if within(text, s) || within(s, text) {
				t.Errorf("%s is shared", cut(text))
			}
		}
	}
	prefixed := plain("0", "a", 0)
	prefixed.prefix = "p"
	s = s[:len(s)-1024] + prefixed.block() + noted(line("path", "b")+line("size", "2")) + file("a", "hi") + noted(line("linkpath", "b")) + headOf("1", "a", "c", 0, 0) + end
	got, e := Read(s)
	if e != api.OK || len(got) != len(l)+3 {
		t.Fatal(len(got), e)
	}
	for _, x := range got {
		for _, text := range []string{x.Name, x.To, x.Data} {
			if within(text, s) {
				t.Errorf("%s is shared", cut(text))
			}
		}
	}
	again, _ := Read(s)
	got[0].Name = "other"
	if again[0].Name != "d/" || &again[0] == &got[0] {
		t.Error("two lists are one")
	}
}

// R2: what was asked ahead doesn't count.
func TestSameAnswers(t *testing.T) {
	s := written(t, some()...)
	for _, bad := range []string{"", noted(line("path", "b")), noted(line("path", "b")) + plain("g", "a", 0).block(), s[:700], times("x", 512)} {
		Read(bad)
		reads(t, s, some(), api.OK)
		reads(t, file("a", "hi")+end, one("a", "hi"), api.OK)
		refuses(t, api.ErrArg, append(some(), api.TarEntry{})...)
		if again := written(t, some()...); again != s {
			t.Error("written otherwise")
		}
	}
}

// P15.1: much data, and many records.
func TestReadMuch(t *testing.T) {
	data := times("0123456789abcdef", 1<<18)
	l := append(one("a", data), one("b", data[1:])...)
	reads(t, file("a", data)+file("b", data[1:])+times("\x00", 1<<22+1), l, api.OK)
	reads(t, noted(times(line("path", "x"), 100000)+line("path", "b"))+file("a", "hi")+end, one("b", "hi"), api.OK)
	reads(t, noted(line("k", times(" ", 1<<22))+line("path", "b"))+file("a", "hi")+end, one("b", "hi"), api.OK)
	fails(t, noted(times("9", 1<<22))+file("a", "hi")+end, api.ErrForm)
	fails(t, noted(times(" ", 1<<22))+file("a", "hi")+end, api.ErrForm)
	fails(t, noted(line("path", times("x", 1<<22)))+file("a", "hi")+end, api.ErrLong)
}
