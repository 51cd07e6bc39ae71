package refs

import (
	"encoding/hex"
	"regexp"
	"strings"
	"testing"
	"unsafe"

	"lighter/api"
)

const (
	maxPath = 200
	maxTag  = 32
	digits  = "0123456789abcdeffedcba98765432100123456789abcdef00112233445566aa"
	digest  = "sha256:" + digits
)

// Forms of the document's words.
const (
	label = `[A-Za-z0-9]([A-Za-z0-9-]*[A-Za-z0-9])?`
	part  = `[a-z0-9]+((\.|_|__|-+)[a-z0-9]+)*`
)

var (
	domainForm = regexp.MustCompile(`\A` + label + `(\.` + label + `)*(:[0-9]{1,5})?\z`)
	pathForm   = regexp.MustCompile(`\A` + part + `(/` + part + `)*\z`)
	tagForm    = regexp.MustCompile(`\A[A-Za-z0-9_][A-Za-z0-9_.-]{0,31}\z`)
	digestForm = regexp.MustCompile(`\Asha256:[0-9a-f]{64}\z`)
	// Such a text begins with a domain of its own.
	leadForm = regexp.MustCompile(`\A([^/]*[.:][^/]*|localhost)/`)
)

// known is the digest of those digits.
func known() (d api.Digest) {
	b, _ := hex.DecodeString(digits)
	copy(d[:], b)
	return d
}

// tagged is a name without a digest.
func tagged(domain, path, tag string) api.Ref {
	return api.Ref{Domain: domain, Path: path, Tag: tag}
}

// pinned is a name with the known digest.
func pinned(domain, path, tag string) api.Ref {
	return api.Ref{Domain: domain, Path: path, Tag: tag, Digest: known(), Pinned: true}
}

// textOf is a name's text, also of one that may not be.
func textOf(r api.Ref) string {
	s := strings.Join([]string{r.Domain, r.Path}, "/")
	if len(r.Tag) > 0 {
		s = strings.Join([]string{s, r.Tag}, ":")
	}
	if r.Pinned {
		s = strings.Join([]string{s, "sha256:" + hex.EncodeToString(r.Digest[:])}, "@")
	}
	return s
}

// allowed tells whether a name may be.
func allowed(r api.Ref) bool {
	if !domainForm.MatchString(r.Domain) || !leadForm.MatchString(r.Domain+"/") || !pathForm.MatchString(r.Path) {
		return false
	}
	if !(tagForm.MatchString(r.Tag) || r.Tag == "" && r.Pinned) {
		return false
	}
	if !r.Pinned {
		for _, b := range r.Digest {
			if b != 0 {
				return false
			}
		}
	}
	if r.Domain == "index.docker.io" || r.Domain == "docker.io" && strings.Count(r.Path, "/") == 0 {
		return false
	}
	return len(textOf(r)) <= maxPath
}

// readAs is the name that a text is read as; false: none that may be.
func readAs(s string) (r api.Ref, ok bool) {
	var hasTag bool
	if at := strings.Index(s, "@"); at >= 0 {
		if !digestForm.MatchString(s[at+1:]) {
			return api.Ref{}, false
		}
		b, _ := hex.DecodeString(s[len(s)-64:])
		r.Digest, r.Pinned = api.Digest(b), true
		s = s[:at]
	}
	if colon := strings.LastIndex(s, ":"); colon > strings.LastIndex(s, "/") {
		hasTag, r.Tag, s = true, s[colon+1:], s[:colon]
	}
	if hasTag && r.Tag == "" {
		return api.Ref{}, false
	}
	r.Domain, r.Path = "docker.io", s
	if lead := leadForm.FindString(s); lead != "" {
		r.Domain, r.Path = lead[:len(lead)-1], s[len(lead):]
	}
	if r.Domain == "index.docker.io" {
		r.Domain = "docker.io"
	}
	if r.Domain == "docker.io" && !strings.Contains(r.Path, "/") {
		r.Path = "library/" + r.Path
	}
	if !hasTag && !r.Pinned {
		r.Tag = "latest"
	}
	if !allowed(r) {
		return api.Ref{}, false
	}
	return r, true
}

// parsed is what Parse tells of a text by the document's words.
func parsed(s string) (api.Ref, api.Errno) {
	if len(s) > maxPath {
		return api.Ref{}, api.ErrLong
	}
	r, ok := readAs(s)
	if !ok {
		return api.Ref{}, api.ErrForm
	}
	return r, api.OK
}

// shortOf is what Short tells by the document's words.
func shortOf(r api.Ref) string {
	if !allowed(r) {
		return ""
	}
	s := textOf(r)
	if r.Domain == "docker.io" {
		rest := s[len("docker.io/"):]
		if path, ok := strings.CutPrefix(r.Path, "library/"); ok && !strings.Contains(path, "/") {
			rest = rest[len("library/"):]
		}
		if !leadForm.MatchString(rest) {
			s = rest
		}
	}
	if !r.Pinned && r.Tag == "latest" {
		s = s[:len(s)-len(":latest")]
	}
	return s
}

// reads fails, if a text is not read as that name.
func reads(t *testing.T, s string, want api.Ref) {
	t.Helper()
	if r, e := Parse(s); r != want || e != api.OK {
		t.Errorf("Parse(%q) = %+v, %d; want %+v", s, r, int(e), want)
	}
}

// fails fails, if a text is not told to be wrong by that error.
func fails(t *testing.T, s string, want api.Errno) {
	t.Helper()
	if r, e := Parse(s); r != (api.Ref{}) || e != want {
		t.Errorf("Parse(%.300q) = %+v, %d; want %d", s, r, int(e), int(want))
	}
}

// asWords fails, if Parse does not tell of a text what the document's words do, or of a name that was read what follows from it.
func asWords(t *testing.T, s string) {
	t.Helper()
	want, wantE := parsed(s)
	r, e := Parse(s)
	if r != want || e != wantE {
		t.Fatalf("Parse(%q) = %+v, %d; want %+v, %d", s, r, int(e), want, int(wantE))
	}
	if e == api.OK {
		follows(t, r)
	}
}

// follows fails, if P12.4 does not hold of a name that may be.
func follows(t *testing.T, r api.Ref) {
	t.Helper()
	text, short := Text(r), Short(r)
	if e := Check(r); e != api.OK || text == "" || short == "" {
		t.Fatalf("%+v: Check %d, Text %q, Short %q", r, int(e), text, short)
	}
	for _, s := range []string{text, short} {
		if x, e := Parse(s); x != r || e != api.OK {
			t.Fatalf("Parse(%q) = %+v, %d; want %+v", s, x, int(e), r)
		}
	}
	if len(short) > len(text) {
		t.Fatalf("Short %q is longer than Text %q", short, text)
	}
}

// isAllowed fails, if a name may not be, or has another text.
func isAllowed(t *testing.T, r api.Ref, text string) {
	t.Helper()
	if e, s := Check(r), Text(r); e != api.OK || s != text {
		t.Errorf("%+v: Check %d, Text %q; want %q", r, int(e), s, text)
	}
	follows(t, r)
}

// isRefused fails, if a name may be.
func isRefused(t *testing.T, r api.Ref) {
	t.Helper()
	if e, text, short := Check(r), Text(r), Short(r); e != api.ErrForm || text != "" || short != "" {
		t.Errorf("%.300q: Check %d, Text %.300q, Short %.300q", textOf(r), int(e), text, short)
	}
}

// times is a text, so many times.
func times(s string, n int) string { return strings.Repeat(s, n) }

// P12.1 to P12.3: the document's own examples.
func TestExamples(t *testing.T) {
	r := tagged("docker.io", "library/busybox", "latest")
	reads(t, "busybox", r)
	if text, short := Text(r), Short(r); text != "docker.io/library/busybox:latest" || short != "busybox" {
		t.Errorf("Text %q, Short %q", text, short)
	}
	reads(t, "localhost/a:1", tagged("localhost", "a", "1"))
	r = pinned("docker.io", "a/b", "")
	reads(t, "a/b@"+digest, r)
	if short := Short(r); short != "a/b@"+digest {
		t.Errorf("Short %q", short)
	}
	for _, s := range []string{"A", "a..b", "a:"} {
		fails(t, s, api.ErrForm)
	}
	if short := Short(tagged("docker.io", "a.b/c", "latest")); short != "docker.io/a.b/c" {
		t.Errorf("Short %q", short)
	}
}

// P12.1: a text of more than 200 bytes is too long, whatever stands in it; one of 200 is not.
func TestParseTextSizes(t *testing.T) {
	for n := 190; n <= 210; n++ {
		name := "r.io/" + times("a", n-7) + ":x"
		hub := "index.docker.io/a/" + times("a", n-20) + ":x"
		short := times("a", n-72) + "@" + digest
		for _, s := range []string{name, hub, short, times("a", n), times("A", n), times("@", n), times(":", n), times("/", n), times("\xff", n)} {
			if len(s) != n {
				t.Fatalf("%q has %d bytes; want %d", s, len(s), n)
			}
			if n > maxPath {
				fails(t, s, api.ErrLong)
			}
		}
		if n > maxPath {
			continue
		}
		reads(t, name, tagged("r.io", times("a", n-7), "x"))
		reads(t, hub, tagged("docker.io", "a/"+times("a", n-20), "x"))
		fails(t, short, api.ErrForm)
		fails(t, times("A", n), api.ErrForm)
		fails(t, times("a", n), api.ErrForm)
	}
	for _, n := range []int{201, 1 << 10, 1 << 20} {
		fails(t, times("a", n), api.ErrLong)
		fails(t, times("a/", n), api.ErrLong)
		fails(t, times(" ", n), api.ErrLong)
	}
}

// P12.1: a short text is none, if its name's text has more than 200 bytes.
func TestParseNameSizes(t *testing.T) {
	for _, x := range []struct {
		ahead, behind string
		r             api.Ref // but for what is between
		textAhead     string
	}{
		{"", "", tagged("docker.io", "library/", "latest"), "docker.io/library/"},
		{"", ":x", tagged("docker.io", "library/", "x"), "docker.io/library/"},
		{"a/", "", tagged("docker.io", "a/", "latest"), "docker.io/a/"},
		{"docker.io/", ":1", tagged("docker.io", "library/", "1"), "docker.io/library/"},
		{"index.docker.io/a/", "", tagged("docker.io", "a/", "latest"), "docker.io/a/"},
		{"r.io/", "", tagged("r.io", "", "latest"), "r.io/"},
		{"", "@" + digest, pinned("docker.io", "library/", ""), "docker.io/library/"},
		{"a/", "@" + digest, pinned("docker.io", "a/", ""), "docker.io/a/"},
		{"", ":latest@" + digest, pinned("docker.io", "library/", "latest"), "docker.io/library/"},
		{"r.io:5000/", ":x@" + digest, pinned("r.io:5000", "", "x"), "r.io:5000/"},
	} {
		size := len(textOf(x.r)) // without what is between
		for n := 195; n <= 205; n++ {
			between := times("a", n-size)
			s := x.ahead + between + x.behind
			switch {
			case len(s) > maxPath:
				fails(t, s, api.ErrLong)
			case n > maxPath:
				fails(t, s, api.ErrForm)
			default:
				r := x.r
				r.Path += between
				reads(t, s, r)
				if text := Text(r); len(text) != n || !strings.HasPrefix(text, x.textAhead+between) {
					t.Errorf("Text %q", text)
				}
			}
		}
	}
}

// P12.1: no text is read where there is nothing, or just signs.
func TestParseNothing(t *testing.T) {
	for _, s := range []string{
		"", " ", "/", ":", "@", ".", "-", "_", "//", "::", "@@", ":/", "/:", "@:", ":@", "/@", "@/", "a/:", "/:a", ":a", "@a", "/a", "a/", "a//b", "//a", "a//",
		"docker.io/", "index.docker.io/", "localhost/", "r.io/", "r.io//a", "r.io/a/", "a:1/", "/:1", "docker.io/:1", "docker.io//", "docker.io/@" + digest, "@" + digest, ":1@" + digest, "/@" + digest,
		" a", "a ", "a\n", "\na", "a\x00", "\x00",
	} {
		fails(t, s, api.ErrForm)
	}
}

// domains are texts that stand out as domains, and whether they are.
var domains = map[bool][]string{
	true: {
		"a.b", "a.b.c", "a.b.c.d", "r.io", "localhost", "localhost:1", "localhost:12345", "a:1", "a:22", "a:333", "a:4444", "a:55555", "a:0", "a:00000", "a:99999",
		"1.2", "127.0.0.1", "127.0.0.1:5000", "A.b", "a.B", "A.B", "A:1", "Z.z", "0.9", "a-b.c", "a--b.c", "a.b-c", "a-b:1", "1-a.a-1", "a.localhost", "localhost.a", "LOCALHOST:1", "Localhost:1",
		"r.io:5000", "a.b.c:1", "docker.io:1", "index.docker.io:1", "a.docker.io", "docker.io.a", "Docker.io", "DOCKER.IO", "Index.docker.io", "registry-1.docker.io", "xn--a.b",
	},
	false: {
		"a:", "a.b:", "localhost:", "a:123456", "a.b:123456", "a:x", "a:1x", "a:x1", "a:-1", "a:+1", "a:1:2", "a:1:", "a::1", "a:1.2", "a:1.", "a. b", "a.b:１", "a.b: 1", "a.b:1 ",
		"-a.b", "a-.b", "a.-b", "a.b-", "-.b", "a.-", "-.-", "-a:1", "a-:1", "-:1", "--:1", "-localhost:1", "a..b", ".a", "a.", ".a.b", "a.b.", "..", ".", ":", ":1", ".:1", "a.:1", ".a:1", "a..b:1",
		"a_b.c", "a.b_c", "_.a", "a_b:1", "a b.c", " a.b", "a.b ", "é.b", "a.é", "\u212a.b", "a.\u0131", "a\x00.b", "a\xff.b", "a+b.c", "a~b.c", "[a].b", "[::1]:1", "a!:1",
	},
}

// P12.1, P12.2: what a domain is.
func TestDomains(t *testing.T) {
	for _, s := range domains[true] {
		reads(t, s+"/p", tagged(s, "p", "latest"))
		reads(t, s+"/p/q:1", tagged(s, "p/q", "1"))
		reads(t, s+"/p@"+digest, pinned(s, "p", ""))
		reads(t, s+"/docker.io/p:1@"+digest, pinned(s, "docker.io/p", "1"))
		isAllowed(t, tagged(s, "p", "1"), s+"/p:1")
		isAllowed(t, pinned(s, "p/q", ""), s+"/p/q@"+digest)
	}
	for _, s := range domains[false] {
		for _, behind := range []string{"/p", "/p/q:1", "/p@" + digest, "/p/q:1@" + digest} {
			fails(t, s+behind, api.ErrForm)
		}
		isRefused(t, tagged(s, "p/q", "1"))
		isRefused(t, pinned(s, "p/q", ""))
	}
}

// P12.1: what stands ahead of the first / is a part of a path, if it has no point, and no colon, and is not localhost.
func TestNoDomains(t *testing.T) {
	for _, s := range []string{"a", "ab", "a-b", "a_b", "a__b", "0", "123", "localhosts", "alocalhost", "local", "local-host", "docker", "library", "index"} {
		reads(t, s+"/p", tagged("docker.io", s+"/p", "latest"))
		reads(t, s+"/p/q:1", tagged("docker.io", s+"/p/q", "1"))
		isRefused(t, tagged(s, "p", "1"))
		isRefused(t, tagged(s, "p/q", "1"))
	}
	for _, s := range []string{"A", "LOCALHOST", "Localhost", "localhosT", "a-", "-a", "a b", "_"} {
		fails(t, s+"/p", api.ErrForm)
		isRefused(t, tagged(s, "p/q", "1"))
	}
	// Without a / all is a path.
	for _, s := range []string{"a.b", "localhost", "docker.io", "index.docker.io", "a.b.c", "library", "1.2"} {
		reads(t, s, tagged("docker.io", "library/"+s, "latest"))
		reads(t, s+":5000", tagged("docker.io", "library/"+s, "5000"))
		reads(t, s+"@"+digest, pinned("docker.io", "library/"+s, ""))
	}
	// A / behind the first one makes no domain of what is ahead of it.
	reads(t, "a/b.c/d", tagged("docker.io", "a/b.c/d", "latest"))
	reads(t, "a/localhost/d", tagged("docker.io", "a/localhost/d", "latest"))
	fails(t, "a/b:1/c", api.ErrForm)
	fails(t, "r.io/b:1/c", api.ErrForm)
}

// P12.1, P12.2: the hub, by both of its names, with and without a / in the path.
func TestHub(t *testing.T) {
	for _, s := range []string{"docker.io/", "index.docker.io/", ""} {
		reads(t, s+"a", tagged("docker.io", "library/a", "latest"))
		reads(t, s+"a:1", tagged("docker.io", "library/a", "1"))
		reads(t, s+"a@"+digest, pinned("docker.io", "library/a", ""))
		reads(t, s+"a/b", tagged("docker.io", "a/b", "latest"))
		reads(t, s+"a/b:1@"+digest, pinned("docker.io", "a/b", "1"))
		reads(t, s+"library/a", tagged("docker.io", "library/a", "latest"))
		reads(t, s+"library/a/b", tagged("docker.io", "library/a/b", "latest"))
		reads(t, s+"library", tagged("docker.io", "library/library", "latest"))
		reads(t, s+"library/library", tagged("docker.io", "library/library", "latest"))
	}
	for _, ahead := range []string{"docker.io/", "index.docker.io/"} {
		for _, s := range []string{"localhost/a", "r.io/a", "docker.io/a", "index.docker.io/a", "docker.io/a/b", "docker.io/docker.io/a"} {
			reads(t, ahead+s, tagged("docker.io", s, "latest"))
		}
	}
	// Another domain has no library, and no other name.
	reads(t, "r.io/a", tagged("r.io", "a", "latest"))
	reads(t, "localhost/a", tagged("localhost", "a", "latest"))
	reads(t, "index.docker.io:1/a", tagged("index.docker.io:1", "a", "latest"))
	reads(t, "Index.docker.io/a", tagged("Index.docker.io", "a", "latest"))
	isAllowed(t, tagged("docker.io", "a/b", "x"), "docker.io/a/b:x")
	isAllowed(t, tagged("docker.io:1", "a", "x"), "docker.io:1/a:x")
	for _, path := range []string{"a", "library", "a.b", "localhost"} {
		isRefused(t, tagged("docker.io", path, "x"))
		isRefused(t, pinned("docker.io", path, ""))
		isRefused(t, tagged("index.docker.io", path, "x"))
		isRefused(t, tagged("index.docker.io", "library/"+path, "x"))
		isRefused(t, pinned("index.docker.io", path+"/b", ""))
	}
}

// parts are texts without a / and a colon, and whether they are parts of a path.
var parts = map[bool][]string{
	true: {
		"a", "z", "0", "9", "ab", "a1", "1a", "00", "a.b", "a_b", "a__b", "a-b", "a--b", "a---b", "a" + times("-", 20) + "b", "a.b.c", "a_b_c", "a__b__c", "a-b-c", "a.b_c__d-e--f", "1.0", "0_0", "0--0",
		"library", "latest", "localhost", "docker.io", "index.docker.io", "r.io",
	},
	false: {
		"", ".", "..", "_", "__", "-", "--", ".a", "a.", "_a", "a_", "__a", "a__", "-a", "a-", "--a", "a--", "a..b", "a...b", "a___b", "a____b",
		"a._b", "a_.b", "a.-b", "a-.b", "a_-b", "a-_b", "a__.b", "a.__b", "a__-b", "a-__b", "a_-_b", "a-_-b", "a.-.b", "a._.b",
		"A", "Z", "aB", "Ab", "a.B", "B-a", "a b", " a", "a ", "a\n", "a\t", "a\x00", "\x7f", "a\xff", "\xc3", "é", "a\u0301", "\u0131", "\u212a", "１", "a+b", "a~b", "a!b", "a,b", "a*", "a\\b", "a%20", "a`", "a{", "a[",
	},
}

// P12.1, P12.2: what a path is: of one part, and of several, and which of them is wrong.
func TestPaths(t *testing.T) {
	for _, s := range parts[true] {
		for _, path := range []string{s, s + "/b", "b/" + s, "b/" + s + "/c", s + "/" + s, "b/c/d/" + s} {
			reads(t, "r.io/"+path, tagged("r.io", path, "latest"))
			reads(t, "localhost/"+path+":1", tagged("localhost", path, "1"))
			reads(t, "a:1/"+path+"@"+digest, pinned("a:1", path, ""))
			isAllowed(t, tagged("r.io", path, "1"), "r.io/"+path+":1")
			isAllowed(t, tagged("docker.io", "b/"+path, "1"), "docker.io/b/"+path+":1")
		}
		reads(t, s, tagged("docker.io", "library/"+s, "latest"))
		reads(t, "b/"+s, tagged("docker.io", "b/"+s, "latest"))
	}
	for _, s := range parts[false] {
		for _, path := range []string{s, s + "/b", "b/" + s, "b/" + s + "/c", s + "/" + s, "b/c/d/" + s} {
			for _, behind := range []string{"", ":1", "@" + digest} {
				fails(t, "r.io/"+path+behind, api.ErrForm)
				fails(t, "docker.io/b/"+path+behind, api.ErrForm)
			}
			isRefused(t, tagged("r.io", path, "1"))
			isRefused(t, pinned("docker.io", "b/"+path, ""))
		}
		fails(t, s, api.ErrForm)
		fails(t, "b/"+s, api.ErrForm)
	}
	for _, path := range []string{"a:b", "a@b", "a:1/b", "a/b:1", "a/b@" + digest, "/a", "a/", "a//b", "/", "//"} {
		isRefused(t, tagged("r.io", path, "1"))
		isRefused(t, pinned("r.io", path, ""))
	}
}

// tags are texts without a / and an @, and whether they are tags.
var tags = map[bool][]string{
	true: {
		"1", "a", "Z", "_", "latest", "Latest", "v1.0", "1.0-rc_1", "_.-", "a.", "a-", "a_", "a..", "a--", "__", "0", "a.b-c_d", times("x", maxTag), times("_", maxTag), "a" + times(".", maxTag-1), "a" + times("-", maxTag-1), times("x", maxTag-1),
		"sha256",
	},
	false: {
		".", "-", ".a", "-a", "..", "--", ".-a", times("x", maxTag+1), times("x", 64), "." + times("x", maxTag-1), "a b", " a", "a ", "a\n", "a\x00", "a\xff", "é", "aé", "\u0131", "\u212a", "１", "a+b", "a~b", "a!", "a,b", "a%b", "a#b", "a^", "a`", "a{", "a[",
	},
}

// P12.1, P12.2: what a tag is.
func TestTags(t *testing.T) {
	for _, s := range tags[true] {
		reads(t, "a:"+s, tagged("docker.io", "library/a", s))
		reads(t, "r.io:5000/a/b:"+s, tagged("r.io:5000", "a/b", s))
		reads(t, "a:"+s+"@"+digest, pinned("docker.io", "library/a", s))
		isAllowed(t, tagged("r.io", "a", s), "r.io/a:"+s)
		isAllowed(t, pinned("r.io", "a", s), "r.io/a:"+s+"@"+digest)
	}
	for _, s := range tags[false] {
		for _, ahead := range []string{"a:", "r.io/a:", "r.io:5000/a/b:"} {
			fails(t, ahead+s, api.ErrForm)
			fails(t, ahead+s+"@"+digest, api.ErrForm)
		}
		isRefused(t, tagged("r.io", "a", s))
		isRefused(t, pinned("r.io", "a", s))
	}
	for _, s := range []string{"a/b", "a:b", "a@b", ":", "/", "@", ":a", "a:"} {
		isRefused(t, tagged("r.io", "a", s))
		isRefused(t, pinned("r.io", "a", s))
	}
}

// P12.1: which colon a tag stands behind; a tag that is nothing; no tag.
func TestTagPlaces(t *testing.T) {
	for _, s := range []string{"a:", "a/b:", "r.io/a:", "r.io:1/a:", "localhost/a:", "a::", "a:1:", ":"} {
		fails(t, s, api.ErrForm)
		fails(t, s+"@"+digest, api.ErrForm)
	}
	for _, s := range []string{"a::1", "a:1:2", "r.io/a:1:2", "r.io:1:2/a", "a:/b", "r.io/a:/b", "r.io/a:1/b", "a/b:1/c"} {
		fails(t, s, api.ErrForm)
		fails(t, s+"@"+digest, api.ErrForm)
	}
	// A colon with a / behind it is a domain's; one that has none is a tag's.
	reads(t, "a:1/b", tagged("a:1", "b", "latest"))
	reads(t, "a:1/b:2", tagged("a:1", "b", "2"))
	reads(t, "a:1/b@"+digest, pinned("a:1", "b", ""))
	reads(t, "a:1", tagged("docker.io", "library/a", "1"))
	reads(t, "r.io:1", tagged("docker.io", "library/r.io", "1"))
	reads(t, "localhost:1", tagged("docker.io", "library/localhost", "1"))
	// Without a tag it is latest, but with a digest it is none.
	reads(t, "r.io/a", tagged("r.io", "a", "latest"))
	reads(t, "r.io/a:latest", tagged("r.io", "a", "latest"))
	reads(t, "r.io/a@"+digest, pinned("r.io", "a", ""))
	reads(t, "r.io/a:latest@"+digest, pinned("r.io", "a", "latest"))
	reads(t, "r.io/a:1@"+digest, pinned("r.io", "a", "1"))
}

// P12.1: what stands behind the first @ is a digest.
func TestDigests(t *testing.T) {
	nothing := times("0", 64)
	for _, ahead := range []string{"a", "a:1", "r.io:1/a/b", "localhost/a:1"} {
		want, _ := readAs(ahead + "@" + digest)
		reads(t, ahead+"@"+digest, want)
		want.Digest = api.Digest{}
		reads(t, ahead+"@sha256:"+nothing, want)
		for _, s := range []string{
			"", "@", "sha256", "sha256:", ":", digits, "sha256:" + digits[:63], "sha256:" + digits + "0", "sha256:" + digits[:62], "sha256:" + strings.ToUpper(digits), "sha256:A" + digits[1:], "sha256:" + digits[1:] + "F", "sha256:g" + digits[1:],
			"SHA256:" + digits, "sha512:" + digits, "md5:" + digits, "sha256" + digits, "sha256::" + digits[1:], " " + digest, digest + " ", "@" + digest, digest + "@", digest + "@" + digest, digest + ":1", digest + "/a", "1:" + digest, "a@" + digest,
		} {
			if len(ahead+"@"+s) > maxPath {
				t.Fatalf("%q is too long", s)
			}
			fails(t, ahead+"@"+s, api.ErrForm)
		}
	}
	// Where there is no @ nothing is a digest.
	fails(t, "a"+digest, api.ErrForm)
	fails(t, "a:"+digest, api.ErrForm)
	reads(t, "sha256:"+digits[:32], tagged("docker.io", "library/sha256", digits[:32]))
}

// P12.2: each field that may not be, alone, of names that may be but for it.
func TestCheckFields(t *testing.T) {
	for _, r := range []api.Ref{
		tagged("r.io", "a", "x"), tagged("docker.io", "a/b", "x"), pinned("r.io", "a", "x"), pinned("docker.io", "a/b", ""), tagged("localhost", "a", "latest"),
		{Domain: "r.io", Path: "a", Pinned: true}, {Domain: "r.io", Path: "a", Tag: "x", Pinned: true},
	} {
		isAllowed(t, r, textOf(r))
		for _, s := range append([]string{"", "a", "r", "library", "index.docker.io", "r.io/a", "/", "a.b/c", "r.io@"}, domains[false]...) {
			x := r
			x.Domain = s
			isRefused(t, x)
		}
		for _, s := range append([]string{"/", "a/", "/a", "a//b", "a:1", "a@"}, parts[false]...) {
			x := r
			x.Path = s
			isRefused(t, x)
		}
		for _, s := range append([]string{":", "a:b", "a/b", "@"}, tags[false]...) {
			x := r
			x.Tag = s
			isRefused(t, x)
		}
	}
	isRefused(t, api.Ref{})
	isRefused(t, api.Ref{Pinned: true})
	isRefused(t, pinned("", "", ""))
}

// P12.2: without a digest there is a tag, and the digest is zero; with one it may be any, also zero, and there may be no tag.
func TestCheckPinned(t *testing.T) {
	for _, where := range []api.Ref{tagged("r.io", "a", ""), tagged("docker.io", "a/b", ""), tagged("localhost:1", "a/b/c", "")} {
		isRefused(t, where)
		for at := range len(api.Digest{}) {
			for _, b := range []byte{1, 128, 255} {
				x := where
				x.Digest[at] = b
				isRefused(t, x)
				x.Tag = "x"
				isRefused(t, x)
				x.Pinned = true
				isAllowed(t, x, textOf(x))
				x.Tag = ""
				isAllowed(t, x, textOf(x))
			}
		}
		x := where
		x.Pinned = true
		isAllowed(t, x, where.Domain+"/"+where.Path+"@sha256:"+times("0", 64))
	}
}

// P12.2: a name whose text has up to 200 bytes may be, whichever field they stand in; one of 201 may not.
func TestCheckSizes(t *testing.T) {
	for n := 195; n <= 205; n++ {
		for _, r := range []api.Ref{
			tagged("r.io", times("a", n-len("r.io/:x")), "x"),
			tagged("r.io", times("a", n-len("r.io/:")-maxTag), times("x", maxTag)),
			tagged("docker.io", "library/"+times("a", n-len("docker.io/library/:latest")), "latest"),
			tagged(times("a", n-len(".b/c:x"))+".b", "c", "x"),
			tagged(times("a", n-len(":12345/c:x"))+":12345", "c", "x"),
			tagged("r.io", times("a/", (n-len("r.io/a:x"))/2)+"a"+times("a", (n-len("r.io/a:x"))%2), "x"),
			pinned("r.io", times("a", n-len("r.io/@"+digest)), ""),
			pinned("r.io", times("a", n-len("r.io/:x@"+digest)), "x"),
			pinned("docker.io", "a/"+times("a", n-len("docker.io/a/@"+digest)), ""),
		} {
			if size := len(textOf(r)); size != n {
				t.Fatalf("%q has %d bytes; want %d", textOf(r), size, n)
			}
			if n > maxPath {
				isRefused(t, r)
			} else {
				isAllowed(t, r, textOf(r))
			}
		}
	}
	long := times("a", 1<<20)
	isRefused(t, tagged(long+".b", "a", "x"))
	isRefused(t, tagged("r.io", long, "x"))
	isRefused(t, tagged("r.io", times("a/", 1<<20)+"a", "x"))
	isRefused(t, tagged("r.io", "a", long))
	isRefused(t, pinned(long+":1", long, long))
}

// P12.3: what is left out, each alone and all of it, and where nothing is.
func TestShort(t *testing.T) {
	for _, x := range []struct {
		r    api.Ref
		want string
	}{
		// The domain, the library, the tag.
		{tagged("docker.io", "library/a", "latest"), "a"},
		{tagged("docker.io", "library/a", "1"), "a:1"},
		{tagged("docker.io", "a/b", "latest"), "a/b"},
		{tagged("docker.io", "a/b", "1"), "a/b:1"},
		{tagged("docker.io", "a/b/c", "latest"), "a/b/c"},
		{tagged("r.io", "a", "latest"), "r.io/a"},
		{tagged("r.io", "a", "1"), "r.io/a:1"},
		{tagged("localhost", "a", "latest"), "localhost/a"},
		// The library of another domain, of a path with a / behind it, and a part that begins as it does.
		{tagged("r.io", "library/a", "latest"), "r.io/library/a"},
		{tagged("localhost", "library/a", "1"), "localhost/library/a:1"},
		{tagged("docker.io", "library/a/b", "latest"), "library/a/b"},
		{tagged("docker.io", "library/library", "latest"), "library"},
		{tagged("docker.io", "library/library/a", "latest"), "library/library/a"},
		{tagged("docker.io", "library/library/library", "1"), "library/library/library:1"},
		{tagged("docker.io", "library2/a", "latest"), "library2/a"},
		{tagged("docker.io", "a/library/b", "latest"), "a/library/b"},
		{tagged("docker.io", "a/library", "latest"), "a/library"},
		// Domains that begin or end as the hub's does.
		{tagged("docker.io:1", "library/a", "latest"), "docker.io:1/library/a"},
		{tagged("index.docker.io:1", "library/a", "latest"), "index.docker.io:1/library/a"},
		{tagged("a.docker.io", "library/a", "latest"), "a.docker.io/library/a"},
		{tagged("docker.io.a", "library/a", "latest"), "docker.io.a/library/a"},
		{tagged("Docker.io", "library/a", "latest"), "Docker.io/library/a"},
		// What would be read with a domain, that of the hub among them.
		{tagged("docker.io", "a.b/c", "latest"), "docker.io/a.b/c"},
		{tagged("docker.io", "a.b/c", "1"), "docker.io/a.b/c:1"},
		{tagged("docker.io", "localhost/a", "latest"), "docker.io/localhost/a"},
		{tagged("docker.io", "docker.io/a", "latest"), "docker.io/docker.io/a"},
		{tagged("docker.io", "docker.io/a/b", "latest"), "docker.io/docker.io/a/b"},
		{tagged("docker.io", "docker.io/library/a", "latest"), "docker.io/docker.io/library/a"},
		{tagged("docker.io", "index.docker.io/a", "latest"), "docker.io/index.docker.io/a"},
		{tagged("docker.io", "index.docker.io/a/b", "1"), "docker.io/index.docker.io/a/b:1"},
		{pinned("docker.io", "a.b/c", ""), "docker.io/a.b/c@" + digest},
		{pinned("docker.io", "localhost/c", "latest"), "docker.io/localhost/c:latest@" + digest},
		// What would not.
		{tagged("docker.io", "library/a.b", "latest"), "a.b"},
		{tagged("docker.io", "library/a.b", "5000"), "a.b:5000"},
		{tagged("docker.io", "library/localhost", "latest"), "localhost"},
		{tagged("docker.io", "library/localhost", "5000"), "localhost:5000"},
		{tagged("docker.io", "library/docker.io", "latest"), "docker.io"},
		{tagged("docker.io", "library/index.docker.io", "latest"), "index.docker.io"},
		{tagged("docker.io", "library/a.b/c", "latest"), "library/a.b/c"},
		{tagged("docker.io", "library/localhost/c", "latest"), "library/localhost/c"},
		{tagged("docker.io", "a/b.c/d", "latest"), "a/b.c/d"},
		{tagged("docker.io", "a/localhost", "latest"), "a/localhost"},
		{tagged("docker.io", "localhosts/a", "latest"), "localhosts/a"},
		// Other tags, and paths, that begin or end as latest does.
		{tagged("docker.io", "library/a", "Latest"), "a:Latest"},
		{tagged("docker.io", "library/a", "latest1"), "a:latest1"},
		{tagged("docker.io", "library/a", "1-latest"), "a:1-latest"},
		{tagged("docker.io", "library/a", "lates"), "a:lates"},
		{tagged("docker.io", "library/latest", "latest"), "latest"},
		{tagged("docker.io", "library/latest", "1"), "latest:1"},
		{tagged("a:1", "latest", "latest"), "a:1/latest"},
		// With a digest the tag stays.
		{pinned("docker.io", "library/a", ""), "a@" + digest},
		{pinned("docker.io", "library/a", "latest"), "a:latest@" + digest},
		{pinned("docker.io", "library/a", "1"), "a:1@" + digest},
		{pinned("docker.io", "library/a/b", "latest"), "library/a/b:latest@" + digest},
		{pinned("docker.io", "a/b", ""), "a/b@" + digest},
		{pinned("r.io", "a", "latest"), "r.io/a:latest@" + digest},
		{pinned("r.io:5000", "a", ""), "r.io:5000/a@" + digest},
		{api.Ref{Domain: "docker.io", Path: "library/a", Tag: "latest", Pinned: true}, "a:latest@sha256:" + times("0", 64)},
	} {
		if s := Short(x.r); s != x.want {
			t.Errorf("Short of %q = %q; want %q", textOf(x.r), s, x.want)
		}
		isAllowed(t, x.r, textOf(x.r))
	}
}

// names hands on names of all combinations of fields, most of which may not be.
func names(f func(api.Ref)) {
	paths := []string{"", "a", "A", "a.b", "localhost", "docker.io", "index.docker.io", "library", "latest", "a..b", "a/", "/a", "a:1", "a@"}
	for _, p := range paths[:len(paths)-2] {
		for _, q := range []string{"a", "a.b", "library", "localhost", "docker.io", "-", "a/b", "a/", "library/a", "a--b/c"} {
			paths = append(paths, p+"/"+q)
		}
	}
	for _, domain := range []string{"", "a", "A", "a.b", "A.b", "a:1", "a:", "a:123456", "localhost", "LOCALHOST", "localhost:5000", "docker.io", "index.docker.io", "docker.io:1", "library", "-a.b", "docker.io/a", "r.io/", ".", "@"} {
		for _, path := range paths {
			for _, tag := range []string{"", "latest", "1", "x.y_z-", ".x", "-", times("x", maxTag), times("x", maxTag+1), "a/b", "a:b", "a@b"} {
				f(tagged(domain, path, tag))
				f(pinned(domain, path, tag))
				f(api.Ref{Domain: domain, Path: path, Tag: tag, Pinned: true})
				f(api.Ref{Domain: domain, Path: path, Tag: tag, Digest: known()})
			}
		}
	}
}

// P12.2, P12.3: all combinations of fields, held against the document's words.
func TestNames(t *testing.T) {
	count := 0
	names(func(r api.Ref) {
		if !allowed(r) {
			isRefused(t, r)
			return
		}
		count++
		if e, text, short := Check(r), Text(r), Short(r); e != api.OK || text != textOf(r) || short != shortOf(r) {
			t.Errorf("%+v: Check %d, Text %q, Short %q; want %q", r, int(e), text, short, shortOf(r))
		}
	})
	if count < 1000 {
		t.Errorf("%d of them may be", count)
	}
}

// P12.4: of all combinations that may be the text and the short one are read as that name; no shorter one of those that Short could tell is.
func TestTextsAreRead(t *testing.T) {
	names(func(r api.Ref) {
		if !allowed(r) {
			return
		}
		follows(t, r)
		text, short := Text(r), Short(r)
		for _, ahead := range []string{"", "docker.io/", "docker.io/library/"} {
			for _, behind := range []string{"", ":latest"} {
				s := strings.TrimPrefix(strings.TrimSuffix(text, behind), ahead)
				if x, e := Parse(s); e == api.OK && x == r && len(s) < len(short) {
					t.Errorf("%q is read as %+v; Short is %q", s, r, short)
				}
			}
		}
	})
}

// P12.1, P12.4: all short texts of some alphabets, held against the document's words.
func TestParseEach(t *testing.T) {
	for _, x := range []struct {
		letters string
		size    int
	}{
		{"a.:/", 7}, {"a-_./", 7}, {"aA1.-:/", 5}, {"a_-.:/@", 5}, {"a: \xff/\xc3\xa9", 4},
	} {
		eachText(x.letters, x.size, "", func(s string) {
			asWords(t, s)
			asWords(t, "localhost/"+s)
			asWords(t, s+"@"+digest)
		})
	}
}

// eachText hands on all texts of up to so many of the letters.
func eachText(letters string, size int, s string, f func(string)) {
	f(s)
	if size == 0 {
		return
	}
	for i := range len(letters) {
		eachText(letters, size-1, s+letters[i:i+1], f)
	}
}

// P12.1, P12.4: all texts of up to five words and signs, held against the document's words.
func TestParseWords(t *testing.T) {
	words := []string{"a", "A", "a.b", "localhost", "docker.io", "index.docker.io", "library", "/", ":", "5000", "latest", "@", digest}
	var each func(n int, s string)
	each = func(n int, s string) {
		asWords(t, s)
		if n == 0 {
			return
		}
		for _, w := range words {
			each(n-1, s+w)
		}
	}
	each(5, "")
}

// P12.1, P12.4: texts of which a byte is changed, left out, or put in, at each place.
func TestParseEachByte(t *testing.T) {
	for _, s := range []string{"a", "busybox:1.0", "index.docker.io/a/b:x", "reg-1.io:5000/a__b/c--d.e_f:1_.-", "localhost/library/a", "A.b:1/c:2@" + digest, "docker.io/localhost/a@" + digest} {
		for at := range len(s) + 1 {
			for b := range 256 {
				put := string([]byte{byte(b)})
				asWords(t, s[:at]+put+s[at:])
				if at < len(s) {
					asWords(t, s[:at]+put+s[at+1:])
				}
			}
			if at < len(s) {
				asWords(t, s[:at]+s[at+1:])
			}
			asWords(t, s[:at])
			asWords(t, s[at:])
		}
	}
}

// numbers are mixed ones.
type numbers struct{ last uint32 }

func (r *numbers) below(n int) int {
	r.last = r.last*1664525 + 1013904223
	return int(r.last>>8) % n
}

func (r *numbers) one(l []string) string { return l[r.below(len(l))] }

// P12.1, P12.4: texts by chance, most of which are nearly names, about all sizes.
func TestParseMixed(t *testing.T) {
	r := &numbers{last: 12}
	ends := []string{"", ":1", ":latest", "@" + digest, ":x@" + digest, ":", "@", ":" + times("x", maxTag), ":" + times("x", maxTag+1)}
	firsts := []string{"", "a/", "r.io/", "docker.io/", "index.docker.io/", "localhost/", "localhost:5000/", "library/", "docker.io/library/", "a.b/c.d/"}
	ok := 0
	for range 100000 {
		var b strings.Builder
		b.WriteString(r.one(firsts))
		for range r.below(6) {
			b.WriteString(times(r.one([]string{"a", "0", "ab", "x9"}), 1+r.below(20)))
			b.WriteString(r.one([]string{"/", ".", "_", "__", "-", "--", "/", ""}))
		}
		b.WriteString("z")
		b.WriteString(r.one(ends))
		s := b.String()
		if r.below(4) == 0 {
			at := r.below(len(s))
			s = s[:at] + r.one([]string{"/", ":", "@", ".", "_", "-", "A", " ", ""}) + s[at+1:]
		}
		asWords(t, s)
		if _, e := Parse(s); e == api.OK {
			ok++
		}
	}
	if ok < 10000 {
		t.Errorf("%d of them are names", ok)
	}
}

// R2: what is asked ahead changes no answer.
func TestAnswersStay(t *testing.T) {
	for range 3 {
		reads(t, "a", tagged("docker.io", "library/a", "latest"))
		fails(t, "A", api.ErrForm)
		reads(t, "a@"+digest, pinned("docker.io", "library/a", ""))
		reads(t, "r.io/a", tagged("r.io", "a", "latest"))
	}
}

// within tells whether a text stands in the memory of another one.
func within(s, of string) bool {
	if s == "" {
		return false
	}
	at, from := uintptr(unsafe.Pointer(unsafe.StringData(s))), uintptr(unsafe.Pointer(unsafe.StringData(of)))
	return at >= from && at < from+uintptr(len(of))
}

// Rules: what is told shares nothing with what was handed in.
func TestNothingIsShared(t *testing.T) {
	for _, s := range []string{"a", "a/b:1", "r.io/a:1", "r.io:1/a/b@" + digest, "docker.io/library/a:1", "index.docker.io/a/b", "docker.io/a.b/c:1@" + digest, "library/a"} {
		r, e := Parse(s)
		if e != api.OK {
			t.Fatalf("Parse(%q): %d", s, int(e))
		}
		for _, field := range []string{r.Domain, r.Path, r.Tag} {
			if within(field, s) {
				t.Errorf("Parse(%q): %q is a piece of it", s, field)
			}
			for _, told := range []string{Text(r), Short(r)} {
				if within(told, field) {
					t.Errorf("%q is a piece of %q", told, field)
				}
			}
		}
	}
}
