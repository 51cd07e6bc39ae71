package paths

import (
	"path"
	"regexp"
	"strings"
	"testing"
	"unsafe"

	"lighter/api"
)

const maxPath = 200

// Forms of the document's words of whiteouts.
var (
	opaqueForm   = regexp.MustCompile(`\A\.wh\.\.wh\.\.opq\z`)
	whiteoutForm = regexp.MustCompile(`(?s)\A\.wh\.(.+)\z`)
	staysForm    = regexp.MustCompile(`(?s)\A(\.|\.\.|\.wh\..*)\z`)
)

// cleaned is what Clean tells by the document's words, as the library goes by them.
func cleaned(p string) (string, api.Errno) {
	left := path.Clean(strings.TrimLeft(p, "/"))
	if strings.IndexByte(p, 0) >= 0 || left == ".." || strings.HasPrefix(left, "../") {
		return "", api.ErrPath
	}
	if left == "." {
		left = ""
	}
	if len(left) > maxPath {
		return "", api.ErrLong
	}
	return left, api.OK
}

// isClean tells whether a path is clean, by the document's words.
func isClean(p string) bool {
	if p == "" {
		return true
	}
	for _, part := range strings.Split(p, "/") {
		if part == "" || part == "." || part == ".." || strings.IndexByte(part, 0) >= 0 {
			return false
		}
	}
	return len(p) <= maxPath
}

// whitedOut is what Whiteout tells by the document's words.
func whitedOut(base string) (name string, opaque, is bool) {
	if opaqueForm.MatchString(base) {
		return "", true, true
	}
	m := whiteoutForm.FindStringSubmatch(base)
	if m == nil || staysForm.MatchString(m[1]) {
		return "", false, false
	}
	return m[1], false, true
}

// cleans fails, if Clean doesn't tell that of a path.
func cleans(t *testing.T, p, want string, no api.Errno) {
	t.Helper()
	if s, e := Clean(p); s != want || e != no {
		t.Errorf("Clean(%s) = %s, %d; want %s, %d", quoted(p), quoted(s), int(e), quoted(want), int(no))
	}
}

// asWords fails, if Clean doesn't tell of a path what the document's words say.
func asWords(t *testing.T, p string) {
	t.Helper()
	want, no := cleaned(p)
	cleans(t, p, want, no)
}

// takes fails, if Whiteout doesn't tell that of a name.
func takes(t *testing.T, base, name string, opaque, is bool) {
	t.Helper()
	if n, o, i := Whiteout(base); n != name || o != opaque || i != is {
		t.Errorf("Whiteout(%q) = %q, %t, %t; want %q, %t, %t", base, n, o, i, name, opaque, is)
	}
}

// quoted is a text's front, to be told.
func quoted(s string) string {
	const most = 80
	if len(s) > most {
		return `"` + s[:most] + `" ..`
	}
	return `"` + strings.ReplaceAll(s, "\x00", `\0`) + `"`
}

func times(s string, n int) string { return strings.Repeat(s, n) }

// parts are n of them, of size bytes each, with a / between.
func parts(n, size int) string {
	return strings.TrimSuffix(times(times("p", size)+"/", n), "/")
}

// each calls do with all texts of up to most of these words, with between between two of them.
func each(words []string, between string, most int, do func(string)) {
	var more func(s string, n int)
	more = func(s string, n int) {
		do(s)
		if n == most {
			return
		}
		for _, w := range words {
			if n == 0 {
				more(w, 1)
			} else {
				more(s+between+w, n+1)
			}
		}
	}
	more("", 0)
}

// downTo are all that a clean path is under, but the root, from there on, and itself.
func downTo(p string) []string {
	var l []string
	for at := range len(p) {
		if at > 0 && p[at] == '/' {
			l = append(l, p[:at])
		}
	}
	if p != "" {
		l = append(l, p)
	}
	return l
}

// numbers are mixed ones.
type numbers struct{ last uint32 }

func (r *numbers) below(n int) int {
	r.last = r.last*1664525 + 1013904223
	return int(r.last>>8) % n
}

func (r *numbers) one(l []string) string { return l[r.below(len(l))] }

// someClean are clean paths.
func someClean() []string {
	return []string{
		"", "a", "a/b", "a/b/c", "ab/a", "...", ".../..a", ".a/b.", "a b", "ä/語", "\xff/\xfe\x80", ".wh.a", "a/.wh..wh..opq", "-", "~/*",
		parts(1, maxPath), parts(100, 1), parts(67, 2), parts(2, 99), "a/" + parts(66, 2), parts(99, 1) + "/pp",
	}
}

// P14.1 to P14.3: the document's examples.
func TestExamples(t *testing.T) {
	cleans(t, "/a/./b//../c/", "a/c", api.OK)
	cleans(t, "a/../..", "", api.ErrPath)
	cleans(t, "", "", api.OK)
	if p, b := Parent("a/b"), Base("a/b"); p != "a" || b != "b" {
		t.Errorf("Parent and Base of a/b: %q, %q", p, b)
	}
	if Inside("a", "ab") || !Inside("a", "a/b") {
		t.Error("Inside of a: ab is, or a/b is not")
	}
	takes(t, ".wh.x", "x", false, true)
	takes(t, ".wh..wh..opq", "", true, true)
	takes(t, ".wh.", "", false, false)
}

// P14.1: parts that are nothing, and points, alone, at the front, between parts, at the end.
func TestCleanLeavesOut(t *testing.T) {
	for _, x := range [][2]string{
		{"/", ""}, {"//", ""}, {"////", ""}, {"/a", "a"}, {"///a", "a"}, {"a/", "a"}, {"a///", "a"}, {"a/b", "a/b"}, {"a//b", "a/b"}, {"a////b", "a/b"}, {"//a//b//", "a/b"},
		{".", ""}, {"./", ""}, {"/.", ""}, {"/./", ""}, {"././.", ""}, {"./a", "a"}, {"a/./b", "a/b"}, {"a/././b", "a/b"}, {"a/.", "a"}, {"a/./", "a"}, {"./a/./b/./", "a/b"},
	} {
		cleans(t, x[0], x[1], api.OK)
	}
}

// P14.1: .. takes the last part that stands there away, as long as there is one.
func TestCleanTakesAway(t *testing.T) {
	for _, x := range [][2]string{
		{"a/..", ""}, {"a/../", ""}, {"/a/..", ""}, {"a/../b", "b"}, {"a/b/..", "a"}, {"a/b/../c", "a/c"}, {"a/b/../../c", "c"}, {"a/b/c/../../..", ""}, {"a/b/../c/..", "a"},
		{"a/../a/../a", "a"}, {"a/./..", ""}, {"a//..", ""}, {"a/.//./../b", "b"}, {"a/b/.././../c", "c"}, {"a/b//..//..", ""}, {"a/b/../../c/d/../e", "c/e"},
	} {
		cleans(t, x[0], x[1], api.OK)
	}
	for _, p := range []string{
		"..", "/..", "../", "//../", "./..", "../..", "../a", "/../a", "a/../..", "a/../../", "a/../../a", "a/b/../../..", "a/b/../../../c", "a/../b/../../c",
		"a/../../b", "./a/.././..", "a//..//..", "../a/..", "a/b/../../../d/e/f",
	} {
		cleans(t, p, "", api.ErrPath)
	}
}

// P14.1: .. as often as there are parts, once less, and once more.
func TestCleanBackToTheRoot(t *testing.T) {
	for n := 1; n <= 120; n++ {
		down := parts(n, 1)
		cleans(t, down+times("/..", n-1), "p", api.OK)
		cleans(t, down+times("/..", n), "", api.OK)
		cleans(t, down+times("/..", n)+"/a", "a", api.OK)
		cleans(t, down+times("/..", n+1), "", api.ErrPath)
		cleans(t, down+times("/..", n+1)+"/a/b", "", api.ErrPath)
		cleans(t, down+times("/..", n)+"/a/../..", "", api.ErrPath)
	}
}

// P14.1: points that are neither one nor two are a part as any other.
func TestCleanPoints(t *testing.T) {
	for _, part := range []string{"...", "....", ".a", "..a", "a.", "a..", "a.b", "a..b", ". ", " .", ".. ", " ..", "..\n", ".wh..", "\u2024", "\u2025", "\uff0e"} {
		cleans(t, part, part, api.OK)
		cleans(t, "/"+part+"/", part, api.OK)
		cleans(t, part+"/a", part+"/a", api.OK)
		cleans(t, "a/"+part, "a/"+part, api.OK)
		cleans(t, "a/"+part+"/b", "a/"+part+"/b", api.OK)
		cleans(t, part+"/..", "", api.OK)
		cleans(t, "a/"+part+"/../b", "a/b", api.OK)
	}
}

// P14.1: a byte 0 in a part, also in one that is taken away later, and in one that would be left out, or take away.
func TestCleanZeroBytes(t *testing.T) {
	for _, part := range []string{"\x00", "\x00\x00", "\x00a", "a\x00", "a\x00b", ".\x00", "\x00.", "..\x00", "\x00..", ".\x00.", times("a", 500) + "\x00"} {
		for _, p := range []string{
			part, "/" + part, part + "/", part + "/a", "a/" + part, "a/" + part + "/b", part + "/..", "a/" + part + "/..", part + "/../a", "a/" + part + "/../..",
			part + "/" + part, part + "/..", "../" + part, part + "/../..", "a/../../" + part, "a/" + part + "/../../..", part + "/" + parts(120, 2), parts(120, 2) + "/" + part, parts(120, 2) + "/" + part + times("/..", 121),
		} {
			cleans(t, p, "", api.ErrPath)
		}
	}
}

// P14.1: each byte at each place of some paths; none but 0, / and the point is of its own kind.
func TestCleanEachByte(t *testing.T) {
	for _, p := range []string{"", "a", "ab", "a/b", "/a/", "a/../b", "./a", "ab/cd/..", "..."} {
		for at := range len(p) + 1 {
			for b := range 256 {
				put := string([]byte{byte(b)})
				asWords(t, p[:at]+put+p[at:])
				if at < len(p) {
					asWords(t, p[:at]+put+p[at+1:])
				}
			}
		}
	}
	for b := 1; b < 256; b++ {
		if s := string([]byte{byte(b)}); b != '/' && b != '.' {
			cleans(t, s, s, api.OK)
			cleans(t, "a"+s+"/./b"+s, "a"+s+"/b"+s, api.OK)
		}
	}
}

// P14.1: bytes beyond ASCII, also such as are not UTF-8, stand as they are, and count as bytes.
func TestCleanBeyondASCII(t *testing.T) {
	for _, part := range []string{"ä", "語", "\U0001F600", "\ufffd", "é", "e\u0301", "\xff", "\xc3", "\xa4", "\xed\xa0\x80", "\xc0\xaf", "\xc0\x80", "\xe0\x80\xae", "\xf4\x90\x80\x80", "\u2215", "\ufeff"} {
		cleans(t, part, part, api.OK)
		cleans(t, "//"+part+"/./x/../"+part+"/", part+"/"+part, api.OK)
		cleans(t, part+"/../..", "", api.ErrPath)
		cleans(t, part+"\x00", "", api.ErrPath)
		n := maxPath / len(part)
		long := times(part, n) + times("x", maxPath-n*len(part))
		cleans(t, long, long, api.OK)
		cleans(t, long+"x", "", api.ErrLong)
	}
}

// P14.1: what is left has 198 to 202 bytes, in parts of all sizes, whatever is left out beside.
func TestCleanSizes(t *testing.T) {
	for size := 1; size <= 202; size++ {
		for all := 198; all <= 202; all++ {
			n := all / (size + 1)
			p := strings.TrimSuffix(parts(n, size)+"/"+times("q", all-n*(size+1)), "/")
			p = strings.TrimPrefix(p, "/")
			for len(p) < all {
				p += "q"
			}
			no, want := api.OK, p
			if all > maxPath {
				no, want = api.ErrLong, ""
			}
			cleans(t, p, want, no)
			cleans(t, "/"+p+"/", want, no)
			cleans(t, "./"+strings.ReplaceAll(p, "/", "//./")+"/.//", want, no)
			cleans(t, p+"/"+p+times("/..", strings.Count(p, "/")+1), want, no)
			cleans(t, "x/../"+p+"/x/..", want, no)
			cleans(t, p+times("/..", strings.Count(p, "/")+2), "", api.ErrPath)
		}
	}
}

// P14.1: the edges that the limit has, and a part more.
func TestCleanEdges(t *testing.T) {
	for _, p := range []string{parts(1, 199), parts(1, 200), parts(100, 1), parts(99, 1) + "/pp", "pp/" + parts(99, 1), parts(2, 99), "p/" + parts(1, 198)} {
		cleans(t, p, p, api.OK)
	}
	for _, p := range []string{parts(1, 201), parts(101, 1), parts(99, 1) + "/ppp", "ppp/" + parts(99, 1), parts(100, 1) + "/p", parts(2, 100), "p/" + parts(1, 199), parts(1, 199) + "/p", parts(1, 200) + "/p", parts(1000, 1)} {
		cleans(t, p, "", api.ErrLong)
	}
	long := parts(1, 200)
	cleans(t, long+"/b/..", long, api.OK)
	cleans(t, long+"/b/../..", "", api.OK)
	cleans(t, long+"/b/../../..", "", api.ErrPath)
	cleans(t, long+"x/../"+long, long, api.OK)
}

// P14.1: more parts than may be left, and back from there, and other parts then.
func TestCleanDeep(t *testing.T) {
	for _, down := range []int{98, 99, 100, 101, 102, 103, 150, 1000} {
		for back := max(0, down-110); back <= down+1; back++ {
			p := parts(down, 1) + times("/..", back)
			asWords(t, p)
			asWords(t, p+"/a")
			asWords(t, p+"/a/b/c")
			asWords(t, p+"/a/../b")
			asWords(t, p+"/a/b/../../..")
			asWords(t, p+"/"+parts(101, 1)+times("/..", 100))
		}
	}
	var names []string
	for i := range 130 {
		names = append(names, string([]byte{byte('A' + i%26), byte('a' + i/26)}))
	}
	for left := range 67 {
		want := strings.Join(names[:left], "/")
		cleans(t, strings.Join(names, "/")+times("/..", len(names)-left), want, api.OK)
		cleans(t, strings.Join(names, "/")+times("/..", len(names)-left)+"/z/../y/..", want, api.OK)
	}
}

// P14.1: texts that are much longer, of which less is left, or too much, or that lead out at their ends.
func TestCleanLongTexts(t *testing.T) {
	const many = 200000
	for _, x := range []struct {
		p, want string
		no      api.Errno
	}{
		{times("/", many), "", api.OK},
		{times("/", many) + "a" + times("/", many) + "b", "a/b", api.OK},
		{times("./", many) + "a", "a", api.OK},
		{times("a/../", many) + "b", "b", api.OK},
		{times("a/../", many) + "..", "", api.ErrPath},
		{parts(99, 1) + times("/a/..", many), parts(99, 1), api.OK},
		{parts(100, 1) + times("/a/..", many), parts(100, 1), api.OK},
		{parts(101, 1) + times("/a/..", many), "", api.ErrLong},
		{parts(99, 1) + times("/a/b/../..", many) + "/q", parts(99, 1) + "/q", api.OK},
		{parts(many, 1), "", api.ErrLong},
		{parts(many, 1) + times("/..", many), "", api.OK},
		{parts(many, 1) + times("/..", many-1), "p", api.OK},
		{parts(many, 1) + times("/..", many-100), parts(100, 1), api.OK},
		{parts(many, 1) + times("/..", many-101), "", api.ErrLong},
		{parts(many, 1) + times("/..", many+1), "", api.ErrPath},
		{parts(many, 1) + "/\x00" + times("/..", many+1), "", api.ErrPath},
		{times("a", many), "", api.ErrLong},
		{times("a", many) + "/..", "", api.OK},
		{times("a", many) + "/../b", "b", api.OK},
		{times("a", many) + "\x00", "", api.ErrPath},
		{times(".", many), "", api.ErrLong},
		{times(".", many) + "/..", "", api.OK},
		{times("../", many), "", api.ErrPath},
	} {
		cleans(t, x.p, x.want, x.no)
	}
}

// P14.1: ErrLong is told behind all that is ErrPath.
func TestCleanLongAndWrong(t *testing.T) {
	for _, long := range []string{parts(1, 201), parts(101, 1), parts(3, 100), parts(1, 5000), parts(500, 2)} {
		back := times("/..", strings.Count(long, "/")+1)
		cleans(t, long, "", api.ErrLong)
		cleans(t, long+"/\x00", "", api.ErrPath)
		cleans(t, "\x00/"+long, "", api.ErrPath)
		cleans(t, long+"\x00", "", api.ErrPath)
		cleans(t, long+back, "", api.OK)
		cleans(t, long+back+"/..", "", api.ErrPath)
		cleans(t, long+back+"/../"+long, "", api.ErrPath)
		cleans(t, "../"+long, "", api.ErrPath)
		cleans(t, long+"/"+long+back, "", api.ErrLong)
	}
}

// P14.1, P14.4: all short texts, of signs and of parts.
func TestCleanEach(t *testing.T) {
	each([]string{"/", ".", "a", "\x00"}, "", 8, func(p string) { follows(t, p) })
	each([]string{"/", ".", "a"}, "", 10, func(p string) { follows(t, p) })
	each([]string{"", ".", "..", "a", "b"}, "/", 7, func(p string) { follows(t, p) })
	each([]string{"", ".", "..", "a", "bc", "...", ".d", "e.", "..f", "g\x00", "\xff"}, "/", 4, func(p string) { follows(t, p) })
}

// P14.1, P14.4: paths by chance, about as long as they may be.
func TestCleanMixed(t *testing.T) {
	r := &numbers{last: 14}
	words := []string{"a", "bc", "def", "...", ".h", "i.", "ä", "\xff"}
	got := map[api.Errno]int{}
	for range 100000 {
		var b strings.Builder
		back := 2 + r.below(20)
		for range r.below(120) {
			switch r.below(back) {
			case 0:
				b.WriteString("..")
			case 1:
				b.WriteString(r.one([]string{"", ".", "", "."}))
			default:
				b.WriteString(times(r.one(words), 1+r.below(3)))
			}
			b.WriteString("/")
		}
		if r.below(50) == 0 {
			b.WriteString("\x00/")
		}
		b.WriteString(r.one(words))
		_, e := Clean(b.String())
		got[e]++
		follows(t, b.String())
	}
	for _, e := range []api.Errno{api.OK, api.ErrPath, api.ErrLong} {
		if got[e] < 5000 {
			t.Errorf("%d of them tell %d", got[e], int(e))
		}
	}
}

// follows fails, if Clean of a path isn't by the document's words, or if what follows from them doesn't.
func follows(t *testing.T, p string) {
	t.Helper()
	asWords(t, p)
	s, e := Clean(p)
	if e != api.OK {
		return
	}
	if !isClean(s) {
		t.Errorf("Clean(%s) = %s: it is not clean", quoted(p), quoted(s))
	}
	cleans(t, s, s, api.OK)
	if back := Join(Parent(s), Base(s)); back != s {
		t.Errorf("Join of Parent and Base of %s: %s", quoted(s), quoted(back))
	}
	if !Inside("", s) || !Inside(s, s) || !Inside(Parent(s), s) {
		t.Errorf("%s is not inside of all that it is under", quoted(s))
	}
}

// P14.4: a path is clean if, and only if, Clean tells itself of it.
func TestCleanOnes(t *testing.T) {
	for _, p := range someClean() {
		if !isClean(p) {
			t.Errorf("%s is not clean", quoted(p))
		}
		follows(t, p)
	}
	each([]string{"/", ".", "a", "\x00"}, "", 7, func(p string) {
		if s, e := Clean(p); (s == p && e == api.OK) != isClean(p) {
			t.Errorf("Clean(%q) = %q, %d", p, s, int(e))
		}
	})
}

// P14.2: Parent and Base, with no /, one at the front, at the end, several, two behind one another.
func TestParentAndBase(t *testing.T) {
	for _, x := range [][3]string{
		{"", "", ""}, {"a", "", "a"}, {"/", "", ""}, {"/a", "", "a"}, {"a/", "a", ""}, {"a/b", "a", "b"}, {"a/b/c", "a/b", "c"}, {"/a/b", "/a", "b"}, {"a/b/", "a/b", ""},
		{"//", "/", ""}, {"a//b", "a/", "b"}, {"//a", "/", "a"}, {"a//", "a/", ""}, {"///", "//", ""}, {"a/b//c/d", "a/b//c", "d"}, {".", "", "."}, {"..", "", ".."}, {"../a", "..", "a"}, {"a/..", "a", ".."},
		{"a/\x00", "a", "\x00"}, {"\x00/a", "\x00", "a"}, {"ä/語", "ä", "語"}, {"\xff/\xfe", "\xff", "\xfe"}, {`a\b`, "", `a\b`}, {"a\u2215b", "", "a\u2215b"},
		{parts(5000, 1), parts(4999, 1), "p"}, {times("a", 5000), "", times("a", 5000)}, {"a/" + times("b", 5000), "a", times("b", 5000)}, {times("/", 5000), times("/", 4999), ""},
	} {
		if p, b := Parent(x[0]), Base(x[0]); p != x[1] || b != x[2] {
			t.Errorf("Parent, Base of %s = %s, %s; want %s, %s", quoted(x[0]), quoted(p), quoted(b), quoted(x[1]), quoted(x[2]))
		}
	}
}

// P14.2: Parent and Base of all short texts, and with each byte, held against the library's.
func TestParentAndBaseEach(t *testing.T) {
	same := func(s string) {
		dir, base := path.Split(s)
		if p, b := Parent(s), Base(s); p != strings.TrimSuffix(dir, "/") || b != base {
			t.Errorf("Parent, Base of %q = %q, %q", s, p, b)
		}
	}
	each([]string{"/", ".", "a", "\x00", "ä"}, "", 7, same)
	for b := range 256 {
		c := string([]byte{byte(b)})
		for _, s := range []string{c, c + c, "a" + c, c + "a", "a" + c + "b", "a/" + c + "b", "a" + c + "/b", "a/b" + c} {
			same(s)
		}
	}
}

// P14.2: Join with each of the two nothing, with both, and with what is not clean.
func TestJoin(t *testing.T) {
	for _, x := range [][3]string{
		{"", "", ""}, {"", "a", "a"}, {"a", "", "a"}, {"a", "b", "a/b"}, {"a/b", "c/d", "a/b/c/d"}, {"a", "a", "a/a"},
		{"/", "", "/"}, {"", "/", "/"}, {"/", "/", "///"}, {"a/", "b", "a//b"}, {"a", "/b", "a//b"}, {"a/", "/b", "a///b"}, {"a", "..", "a/.."}, {"..", "a", "../a"}, {".", ".", "./."},
		{"\x00", "a", "\x00/a"}, {"a", "\x00", "a/\x00"}, {"\xff", "ä", "\xff/ä"}, {" ", " ", " / "},
		{parts(1, 300), parts(1, 400), parts(1, 300) + "/" + parts(1, 400)}, {"", parts(1, 300), parts(1, 300)}, {parts(1, 300), "", parts(1, 300)},
	} {
		if s := Join(x[0], x[1]); s != x[2] {
			t.Errorf("Join(%s, %s) = %s; want %s", quoted(x[0]), quoted(x[1]), quoted(s), quoted(x[2]))
		}
	}
	each([]string{"/", ".", "a", "\x00"}, "", 3, func(dir string) {
		each([]string{"/", "b", "\xff"}, "", 3, func(p string) {
			l := []string{dir, p}
			if dir == "" || p == "" {
				l = []string{dir + p}
			}
			if s := Join(dir, p); s != strings.Join(l, "/") {
				t.Errorf("Join(%q, %q) = %q", dir, p, s)
			}
		})
	})
}

// P14.2: Inside of nothing, of the same, of one that begins with the other, of one below, of a longer one.
func TestInside(t *testing.T) {
	for _, x := range []struct {
		dir, p string
		want   bool
	}{
		{"", "", true}, {"", "a", true}, {"", "/", true}, {"", "a/b/c", true}, {"", "\x00", true},
		{"a", "a", true}, {"a/b", "a/b", true}, {"/", "/", true}, {"\xff", "\xff", true},
		{"a", "ab", false}, {"a/b", "a/bc", false}, {"a", "a.", false}, {"a", "a0", false}, {"a", "a\x00", false}, {"a", "a.b/c", false}, {"a", `a\b`, false}, {"a", "aa", false}, {"a", "aa/a", false},
		{"a", "a/", true}, {"a", "a/b", true}, {"a", "a/b/c/d", true}, {"a/b", "a/b/c", true}, {"a/b", "a/b/c/d", true}, {"a", "a//", true}, {"a", "a/..", true},
		{"a", "", false}, {"a/b", "a", false}, {"a/b", "a/", false}, {"ab", "a", false}, {"a/b", "", false}, {"a/", "a", false}, {"a/b/c", "a/b", false},
		{"a", "b", false}, {"a", "b/a", false}, {"a", "A", false}, {"a", "/a", false}, {"b", "a/b", false}, {"a/b", "a/c", false}, {"a/b", "b/b", false}, {"a", "b/", false}, {"a/b", "ac/b", false},
		{"a/", "a/", true}, {"a/", "a/b", false}, {"a/", "a//b", true}, {"/", "//", true}, {"/", "/a", false}, {"/", "//a", true}, {"/", "a", false}, {"/", "", false},
		{parts(5000, 1), parts(5001, 1), true}, {parts(5000, 1), parts(4999, 1), false}, {parts(5000, 1), parts(5000, 1) + "p", false}, {parts(5000, 1), parts(5000, 1), true},
	} {
		if is := Inside(x.dir, x.p); is != x.want {
			t.Errorf("Inside(%s, %s) = %t", quoted(x.dir), quoted(x.p), is)
		}
	}
}

// P14.2: Inside of all short texts, and with each byte behind, held against a form made of dir.
func TestInsideEach(t *testing.T) {
	each([]string{"/", ".", "a", "b"}, "", 4, func(dir string) {
		form := regexp.MustCompile(`(?s)\A` + regexp.QuoteMeta(dir) + `(/.*)?\z`)
		each([]string{"/", ".", "a", "b"}, "", 5, func(p string) {
			if is := Inside(dir, p); is != (dir == "" || form.MatchString(p)) {
				t.Errorf("Inside(%q, %q) = %t", dir, p, is)
			}
		})
	})
	for b := range 256 {
		c := string([]byte{byte(b)})
		for _, p := range []string{"a/b" + c, "a/b" + c + "c", "a/b" + c + "/c"} {
			if is := Inside("a/b", p); is != (b == '/') {
				t.Errorf("Inside(a/b, %q) = %t", p, is)
			}
		}
		if is := Inside("a"+c, "ab"); is != (b == 'b') {
			t.Errorf("Inside(%q, ab) = %t", "a"+c, is)
		}
		if is := Inside(c+"a", "ba/c"); is != (b == 'b') {
			t.Errorf("Inside(%q, ba/c) = %t", c+"a", is)
		}
	}
}

// P14.4: a clean path is inside of all that it is under, and of nothing else that is clean.
func TestInsideOfAllAbove(t *testing.T) {
	for _, p := range someClean() {
		above := map[string]bool{"": true}
		for _, dir := range downTo(p) {
			above[dir] = true
			if !Inside(dir, p) {
				t.Errorf("%s is not inside of %s", quoted(p), quoted(dir))
			}
			if dir != p && Inside(p, dir) {
				t.Errorf("%s is inside of %s", quoted(dir), quoted(p))
			}
			if !Inside(p, Join(p, "x")) || !Inside(dir, Join(p, "x/y")) {
				t.Errorf("what is joined to %s is not inside", quoted(p))
			}
		}
		for at := range len(p) + 1 {
			if dir := p[:at]; isClean(dir) && Inside(dir, p) != above[dir] {
				t.Errorf("Inside(%s, %s) = %t", quoted(dir), quoted(p), !above[dir])
			}
		}
	}
}

// P14.4: Parent and Base of a clean path are clean, Base is one part of it, and both together are the path.
func TestPartsOfCleanOnes(t *testing.T) {
	for _, p := range someClean() {
		last := ""
		for _, s := range downTo(p) {
			parent, base := Parent(s), Base(s)
			if !isClean(parent) || !isClean(base) || base == "" || strings.Contains(base, "/") {
				t.Errorf("Parent, Base of %s = %s, %s", quoted(s), quoted(parent), quoted(base))
			}
			if parent != last {
				t.Errorf("Parent(%s) = %s; want %s", quoted(s), quoted(parent), quoted(last))
			}
			if back := Join(parent, base); back != s {
				t.Errorf("Join(%s, %s) = %s", quoted(parent), quoted(base), quoted(back))
			}
			last = s
		}
	}
}

// P14.4: what Clean tells never leads out, wherever it is laid.
func TestCleanNeverLeadsOut(t *testing.T) {
	each([]string{"", ".", "..", "a", "b"}, "/", 6, func(p string) {
		s, e := Clean(p)
		if e != api.OK {
			return
		}
		for _, root := range []string{"r", "r/q"} {
			if at := path.Clean(Join(root, s)); at != root && !strings.HasPrefix(at, root+"/") {
				t.Errorf("Clean(%q) = %q leads from %q to %q", p, s, root, at)
			}
			if at, e := Clean(Join(root, s)); e != api.OK || !Inside(root, at) {
				t.Errorf("Clean(%q) = %q: not inside of %q: %q, %d", p, s, root, at, int(e))
			}
		}
	})
}

// P14.3: the edges of whiteouts.
func TestWhiteouts(t *testing.T) {
	for _, x := range []struct {
		base, name string
		opaque, is bool
	}{
		{".wh..wh..opq", "", true, true},
		{".wh.x", "x", false, true}, {".wh..x", ".x", false, true}, {".wh....", "...", false, true}, {".wh...x", "..x", false, true}, {".wh.x.wh.", "x.wh.", false, true}, {".wh.x.wh.y", "x.wh.y", false, true},
		{".wh..wh", ".wh", false, true}, {".wh.wh.x", "wh.x", false, true}, {".wh..WH.x", ".WH.x", false, true}, {".wh..Wh..opq", ".Wh..opq", false, true}, {".wh.opq", "opq", false, true}, {".wh..opq", ".opq", false, true}, {".wh. ", " ", false, true},
		{".wh.ä", "ä", false, true}, {".wh.\xff", "\xff", false, true}, {".wh.\n", "\n", false, true}, {".wh.x\n", "x\n", false, true},
		{".wh." + times("x", 5000), times("x", 5000), false, true},
		{"", "", false, false}, {".", "", false, false}, {"..", "", false, false}, {".w", "", false, false}, {".wh", "", false, false}, {".wh.", "", false, false}, {".wh..", "", false, false}, {".wh...", "", false, false},
		{".wh..wh.", "", false, false}, {".wh..wh..", "", false, false}, {".wh..wh.x", "", false, false}, {".wh..wh..opqx", "", false, false}, {".wh..wh..opq.", "", false, false}, {".wh..wh..op", "", false, false}, {".wh..wh..o", "", false, false},
		{".wh..wh..opq\n", "", false, false}, {".wh..wh.opq", "", false, false}, {".wh..wh..OPQ", "", false, false}, {".wh..wh..wh..opq", "", false, false}, {" .wh..wh..opq", "", false, false}, {"a.wh..wh..opq", "", false, false}, {".wh..wh..opq ", "", false, false},
		{".whx", "", false, false}, {".wh-x", "", false, false}, {"wh.x", "", false, false}, {"..wh.x", "", false, false}, {"x.wh.", "", false, false}, {"x.wh.y", "", false, false}, {" .wh.x", "", false, false}, {"/.wh.x", "", false, false}, {"a/.wh.x", "", false, false},
		{".WH.x", "", false, false}, {".Wh.x", "", false, false}, {".wH.x", "", false, false}, {".WH..WH..OPQ", "", false, false}, {".WH..wh..opq", "", false, false}, {"\x00.wh.x", "", false, false}, {"\uff0ewh\uff0ex", "", false, false},
	} {
		takes(t, x.base, x.name, x.opaque, x.is)
	}
}

// P14.3: all short names of these words, and each byte at each place of some, held against the document's forms.
func TestWhiteoutsEach(t *testing.T) {
	same := func(base string) {
		name, opaque, is := whitedOut(base)
		takes(t, base, name, opaque, is)
	}
	each([]string{".wh.", ".", "wh", "opq", "x", "\n"}, "", 6, same)
	each([]string{".", "w", "h", "x"}, "", 7, same)
	for _, base := range []string{".wh.", ".wh.x", ".wh..", ".wh...", ".wh..x", ".wh..wh.", ".wh..wh.x", ".wh..wh..opq"} {
		for at := range len(base) + 1 {
			for b := range 256 {
				// What the library's form takes as one letter is one byte here.
				put := string([]byte{byte(b)})
				same(base[:at] + put + base[at:])
				if at < len(base) {
					same(base[:at] + put + base[at+1:])
				}
			}
			same(base[:at])
			same(base[at:])
		}
	}
}

// P14.4: of a whiteout that is a clean path's last part the name is one part; of others, and of an opaque one, there is no name.
func TestWhiteoutsAreOnePart(t *testing.T) {
	each([]string{".wh.", ".", "..", "/", "x", "opq", "wh", "\x00"}, "", 5, func(p string) {
		s, e := Clean(p)
		if e != api.OK {
			return
		}
		name, opaque, is := Whiteout(Base(s))
		if is && !opaque && (name == "" || strings.Contains(name, "/") || !isClean(name)) {
			t.Errorf("Whiteout(%q): %q", Base(s), name)
		}
		if (!is || opaque) && name != "" || opaque && !is {
			t.Errorf("Whiteout(%q) = %q, %t, %t", Base(s), name, opaque, is)
		}
	})
}

// Ways: the stack is cut by three indices, so what is put on it then is not written over a part that was taken away.
func TestStackIsCut(t *testing.T) {
	for n := 1; n <= maxParts; n++ {
		var s stack
		for range n {
			s.put("a")
		}
		was := s.kept
		if !s.cut() {
			t.Fatalf("a stack of %d is not cut", n)
		}
		s.put("b")
		if was[n-1] != "a" || len(s.kept) != n || s.kept[n-1] != "b" {
			t.Errorf("of %d parts the last one was %q and is %q", n, was[n-1], s.kept[n-1])
		}
	}
}

// R2: what is asked ahead changes no answer.
func TestAnswersStay(t *testing.T) {
	for range 3 {
		cleans(t, "a/b/../c", "a/c", api.OK)
		cleans(t, "a/../..", "", api.ErrPath)
		cleans(t, parts(101, 1), "", api.ErrLong)
		cleans(t, parts(100, 1), parts(100, 1), api.OK)
		takes(t, ".wh..wh..opq", "", true, true)
		takes(t, ".wh.x", "x", false, true)
		if !Inside("a", "a/b") || Parent("a/b") != "a" || Base("a/b") != "b" || Join("a", "b") != "a/b" {
			t.Error("Inside, Parent, Base or Join")
		}
	}
}

// within tells whether a text stands in the memory of another one.
func within(s, of string) bool {
	if s == "" {
		return false
	}
	at, from := uintptr(unsafe.Pointer(unsafe.StringData(s))), uintptr(unsafe.Pointer(unsafe.StringData(of)))
	return at >= from && at < from+uintptr(len(of))
}

// Rules: what is told shares nothing with what was handed in.
func TestNothingIsShared(t *testing.T) {
	for _, p := range []string{"a", "a/b", "abc/def", ".wh.x", "a/", "/a", "x/../abc", "./" + parts(1, 200), "." + "wh.abc", parts(100, 1)} {
		clean, e := Clean(p)
		if e != api.OK {
			t.Fatalf("Clean(%s): %d", quoted(p), int(e))
		}
		name, _, _ := Whiteout(p)
		for _, told := range []string{clean, name, Parent(p), Base(p), Join("", p), Join(p, ""), Join(p, p)} {
			if within(told, p) {
				t.Errorf("%s is a piece of %s", quoted(told), quoted(p))
			}
		}
	}
}
