package oci

import (
	"encoding/hex"
	stdjson "encoding/json"
	"fmt"
	"math/big"
	"reflect"
	"regexp"
	"slices"
	"strconv"
	"strings"
	"testing"
	"unicode/utf8"
	"unsafe"

	"lighter/api"
	"lighter/json"
)

const (
	maxText   = 65536
	maxLayers = 8
	maxParts  = 32 // of an index
	biggest   = 9007199254740992
	hexDigits = "0123456789abcdeffedcba98765432100123456789abcdef00112233445566aa"
	digest    = "sha256:" + hexDigits
)

// The document's media types, in full.
const (
	ociManifest = "application/vnd.oci.image.manifest.v1+json"
	oldManifest = "application/vnd.docker.distribution.manifest.v2+json"
	ociIndex    = "application/vnd.oci.image.index.v1+json"
	oldIndex    = "application/vnd.docker.distribution.manifest.list.v2+json"
	ociConfig   = "application/vnd.oci.image.config.v1+json"
	oldConfig   = "application/vnd.docker.container.image.v1+json"
	ociLayer    = "application/vnd.oci.image.layer.v1.tar"
	oldLayer    = "application/vnd.docker.image.rootfs.diff.tar"
)

// mediaTypes are all of them, and their kinds.
var mediaTypes = map[string]int{
	ociManifest: 1, oldManifest: 1, ociIndex: 2, oldIndex: 2, ociConfig: 3, oldConfig: 3, ociLayer: 4, oldLayer: 4,
}

// numbers are mixed ones.
type numbers struct{ last uint32 }

func (r *numbers) below(n int) int {
	r.last = r.last*1664525 + 1013904223
	return int(r.last>>8) % n
}

func (r *numbers) one(l []string) string { return l[r.below(len(l))] }

// times is a text, so many times.
func times(s string, n int) string { return strings.Repeat(s, n) }

// known is the digest of those digits.
func known() (d api.Digest) {
	b, _ := hex.DecodeString(hexDigits)
	copy(d[:], b)
	return d
}

// said is how an error is shown.
func said(e api.Errno) int { return int(e) }

// quoted is a text's JSON, by the document's words.
func quoted(s string) string {
	var b strings.Builder
	b.WriteString(`"`)
	for _, c := range s {
		short, is := map[rune]string{'"': `\"`, '\\': `\\`, 8: `\b`, 12: `\f`, 10: `\n`, 13: `\r`, 9: `\t`}[c]
		switch {
		case is:
			b.WriteString(short)
		case c < 32:
			fmt.Fprintf(&b, `\u%04x`, c)
		default:
			b.WriteRune(c)
		}
	}
	return b.String() + `"`
}

// fields is the text of an object: a key, the text of its value, and so on; what has no text is not there.
func fields(l ...string) string {
	var parts []string
	for i := 0; i < len(l); i += 2 {
		if l[i+1] != "" {
			parts = append(parts, quoted(l[i])+":"+l[i+1])
		}
	}
	return "{" + strings.Join(parts, ",") + "}"
}

// items is the text of a list.
func items(l ...string) string { return "[" + strings.Join(l, ",") + "]" }

// copies are so many of one text.
func copies(s string, n int) []string { return slices.Repeat([]string{s}, n) }

// entry is the text of a descriptor.
func entry(media, hash, size, platform string) string {
	return fields("mediaType", media, "digest", hash, "size", size, "platform", platform)
}

// good is the text of a descriptor of that media type, that is one.
func good(media string) string { return entry(quoted(media), quoted(digest), "7", "") }

// manifest is the text of a manifest.
func manifest(version, media, config, layers string) string {
	return fields("schemaVersion", version, "mediaType", media, "config", config, "layers", layers)
}

// index is the text of an index.
func index(version, media, manifests string) string {
	return fields("schemaVersion", version, "mediaType", media, "manifests", manifests)
}

// image is the text of an image.
func image(os, arch, kind, diffs string) string {
	return fields("os", os, "architecture", arch, "rootfs", fields("type", kind, "diff_ids", diffs))
}

// descriptor is one of those that may be.
func descriptor(media string, size int, os, arch string) api.Descriptor {
	return api.Descriptor{Media: media, Digest: known(), Size: size, Platform: api.Platform{OS: os, Arch: arch}}
}

// A condition is what may be wrong, and how that is told.
type condition struct {
	wrong bool
	e     api.Errno
}

// firstOf is the error of the first condition that holds.
func firstOf(l ...condition) api.Errno {
	for _, c := range l {
		if c.wrong {
			return c.e
		}
	}
	return api.OK
}

// valueOf is what a text is by the library's words, if package json tells no error of it.
func valueOf(s string) (x any, e api.Errno) {
	if _, _, e := json.Parse(s); e != api.OK {
		return nil, e
	}
	d := stdjson.NewDecoder(strings.NewReader(s))
	d.UseNumber()
	if err := d.Decode(&x); err != nil {
		panic(err)
	}
	return x, api.OK
}

var (
	digestForm  = regexp.MustCompile(`\Asha256:[0-9a-f]{64}\z`)
	integerForm = regexp.MustCompile(`\A-?[0-9]+\z`)
)

// digestOf is a digest, by the document's words.
func digestOf(x any) (api.Digest, bool) {
	s, isText := x.(string)
	if !isText || !digestForm.MatchString(s) {
		return api.Digest{}, false
	}
	b, _ := hex.DecodeString(s[7:])
	return api.Digest(b), true
}

// sizeOf is a size, by the document's words.
func sizeOf(x any) (int, bool) {
	s, isNumber := x.(stdjson.Number)
	n, isInteger := new(big.Int).SetString(string(s), 10)
	if !isNumber || !integerForm.MatchString(string(s)) || !isInteger {
		return 0, false
	}
	if n.Sign() < 0 || n.Cmp(big.NewInt(biggest)) > 0 {
		return 0, false
	}
	return int(n.Int64()), true
}

// descriptorOf is a descriptor, by the document's words.
func descriptorOf(x any) (api.Descriptor, bool) {
	o, isObject := x.(map[string]any)
	media, isText := o["mediaType"].(string)
	hash, isDigest := digestOf(o["digest"])
	size, isSize := sizeOf(o["size"])
	ok := isObject && isText && isDigest && isSize
	var platform api.Platform
	if x, has := o["platform"]; has {
		p, isObject := x.(map[string]any)
		os, hasOS := p["os"].(string)
		arch, hasArch := p["architecture"].(string)
		ok = ok && isObject && hasOS && hasArch
		platform = api.Platform{OS: os, Arch: arch}
	}
	return api.Descriptor{Media: media, Digest: hash, Size: size, Platform: platform}, ok
}

// descriptorsOf is a list of them, by the document's words.
func descriptorsOf(x any) (l []api.Descriptor, ok bool) {
	list, ok := x.([]any)
	for _, x := range list {
		d, is := descriptorOf(x)
		ok = ok && is
		l = append(l, d)
	}
	return l, ok
}

// isOther tells whether an object has a mediaType that is no text of a kind.
func isOther(o map[string]any, kind int) bool {
	x, has := o["mediaType"]
	media, _ := x.(string)
	return has && mediaTypes[media] != kind
}

// manifestOf is what Manifest tells of a text by the document's words.
func manifestOf(s string) (m api.Manifest, e api.Errno) {
	x, e := valueOf(s)
	o, isObject := x.(map[string]any)
	config, isConfig := descriptorOf(o["config"])
	layers, isList := descriptorsOf(o["layers"])
	config.Platform = api.Platform{}
	otherLayer := false
	for i := range layers {
		layers[i].Platform = api.Platform{}
		otherLayer = otherLayer || mediaTypes[layers[i].Media] != 4
	}
	e = firstOf(
		condition{e != api.OK, e},
		condition{!isObject, api.ErrForm},
		condition{o["schemaVersion"] != stdjson.Number("2"), api.ErrForm},
		condition{isOther(o, 1), api.ErrKind},
		condition{!isConfig, api.ErrForm},
		condition{!isList, api.ErrForm},
		condition{len(layers) > maxLayers, api.ErrMany},
		condition{mediaTypes[config.Media] != 3, api.ErrKind},
		condition{otherLayer, api.ErrKind},
	)
	if e != api.OK {
		return api.Manifest{}, e
	}
	return api.Manifest{Config: config, Layers: layers}, api.OK
}

// indexOf is what Index tells of a text by the document's words.
func indexOf(s string) ([]api.Descriptor, api.Errno) {
	x, e := valueOf(s)
	o, isObject := x.(map[string]any)
	l, isList := descriptorsOf(o["manifests"])
	e = firstOf(
		condition{e != api.OK, e},
		condition{!isObject, api.ErrForm},
		condition{o["schemaVersion"] != stdjson.Number("2"), api.ErrForm},
		condition{isOther(o, 2), api.ErrKind},
		condition{!isList, api.ErrForm},
		condition{len(l) > maxParts, api.ErrMany},
	)
	if e != api.OK {
		return nil, e
	}
	return l, api.OK
}

// imageOf is what Image tells of a text by the document's words.
func imageOf(s string) (api.Image, api.Errno) {
	x, e := valueOf(s)
	o, isObject := x.(map[string]any)
	os, hasOS := o["os"].(string)
	arch, hasArch := o["architecture"].(string)
	root, hasRoot := o["rootfs"].(map[string]any)
	diffs, isList := root["diff_ids"].([]any)
	var l []api.Digest
	allDigests := true
	for _, x := range diffs {
		d, is := digestOf(x)
		allDigests = allDigests && is
		l = append(l, d)
	}
	e = firstOf(
		condition{e != api.OK, e},
		condition{!isObject || !hasOS || !hasArch || !hasRoot, api.ErrForm},
		condition{root["type"] != "layers", api.ErrForm},
		condition{!isList || !allDigests, api.ErrForm},
		condition{len(l) > maxLayers, api.ErrMany},
	)
	if e != api.OK {
		return api.Image{}, e
	}
	return api.Image{Platform: api.Platform{OS: os, Arch: arch}, Diffs: l}, api.OK
}

// sameManifest holds two against each other; a list may be nil or empty.
func sameManifest(a, b api.Manifest) bool {
	return a.Config == b.Config && slices.Equal(a.Layers, b.Layers)
}

// sameImage holds two against each other.
func sameImage(a, b api.Image) bool {
	return a.Platform == b.Platform && slices.Equal(a.Diffs, b.Diffs)
}

// readsAs fails, if a text is not read as the document's words do.
func readsAs[T any](t *testing.T, s string, read, words func(string) (T, api.Errno), same func(a, b T) bool) api.Errno {
	t.Helper()
	want, wantE := words(s)
	x, e := read(s)
	if e != wantE || !same(x, want) {
		t.Errorf("%.600q is read as %+v, %d; want %+v, %d", s, x, said(e), want, said(wantE))
	}
	return e
}

// asManifest does that of Manifest.
func asManifest(t *testing.T, s string) api.Errno {
	t.Helper()
	return readsAs(t, s, Manifest, manifestOf, sameManifest)
}

// asIndex does that of Index.
func asIndex(t *testing.T, s string) api.Errno {
	t.Helper()
	return readsAs(t, s, Index, indexOf, slices.Equal[[]api.Descriptor])
}

// asImage does that of Image.
func asImage(t *testing.T, s string) api.Errno {
	t.Helper()
	return readsAs(t, s, Image, imageOf, sameImage)
}

// tells fails, if one of those three (by the document's words, too) does not tell that error.
func tells(t *testing.T, as func(*testing.T, string) api.Errno, s string, want api.Errno) {
	t.Helper()
	if e := as(t, s); e != want {
		t.Errorf("%.600q: %d; want %d", s, said(e), said(want))
	}
}

// P13.1 to P13.6: the document's own examples.
func TestExamples(t *testing.T) {
	if a, b := Kind(MediaLayer), Kind("text/plain"); a != KindLayer || b != KindNone {
		t.Errorf("kinds %d, %d", a, b)
	}
	for _, s := range []string{"{}", "["} {
		if m, e := Manifest(s); e != api.ErrForm || !sameManifest(m, api.Manifest{}) {
			t.Errorf("Manifest(%q) = %+v, %d", s, m, said(e))
		}
	}
	want := `{"architecture":"amd64","os":"linux","rootfs":{"type":"layers","diff_ids":[]}}`
	if s, e := PutImage(api.Image{Platform: api.Platform{OS: "linux", Arch: "amd64"}}); s != want || e != api.OK {
		t.Errorf("PutImage = %s, %d", s, said(e))
	}
	if d, e := Pick(nil, api.Platform{}); d != (api.Descriptor{}) || e != api.ErrNoFit {
		t.Errorf("Pick = %+v, %d", d, said(e))
	}
}

// P13.1: the kinds' numbers, the names of the media types, and each of the eight.
func TestKinds(t *testing.T) {
	if l := []int{KindNone, KindManifest, KindIndex, KindConfig, KindLayer}; !slices.Equal(l, []int{0, 1, 2, 3, 4}) {
		t.Errorf("kinds are %v", l)
	}
	if MediaManifest != ociManifest || MediaIndex != ociIndex || MediaConfig != ociConfig || MediaLayer != ociLayer {
		t.Error("a name has another media type")
	}
	for media, kind := range mediaTypes {
		if k := Kind(media); k != kind {
			t.Errorf("Kind(%q) = %d; want %d", media, k, kind)
		}
	}
}

// P13.1: of all others it is none: texts near them, among them each with a byte changed, put in or left out, and the empty text.
func TestKindOfOthers(t *testing.T) {
	others := []string{"", " ", "text/plain", "application/json", "application/octet-stream", "manifest", "index", "config", "layer", "x", "\x00", "\xff", times("a", 1<<20), "application/vnd.oci.empty.v1+json", "application/vnd.docker.distribution.manifest.v1+json", "application/vnd.oci.image.manifest.v2+json", "application/vnd.oci.image.layer.nondistributable.v1.tar", "application/vnd.docker.image.rootfs.foreign.diff.tar"}
	for media := range mediaTypes {
		others = append(others, strings.ToUpper(media), strings.ToTitle(media[:1])+media[1:], media+media, media+"+gzip", media+".gzip", media+"+zstd", media+"; charset=utf-8", media+"+json", quoted(media), strings.TrimSuffix(media, "+json"), strings.TrimPrefix(media, "application/"))
		for at := range len(media) + 1 {
			others = append(others, media[:at]+"\xff"+media[at:])
			if at == len(media) {
				continue
			}
			others = append(others, media[:at], media[at+1:], media[:at]+media[at+1:])
			for b := range 256 {
				others = append(others, media[:at]+string([]byte{byte(b)})+media[at+1:], media[:at]+string([]byte{byte(b)})+media[at:])
			}
		}
	}
	for _, s := range others {
		if _, is := mediaTypes[s]; !is && Kind(s) != KindNone {
			t.Errorf("Kind(%q) = %d; want none", s, Kind(s))
		}
	}
}

// texts are those of a manifest, an index and an image, and what reads them.
var texts = []struct {
	name string
	s    string
	as   func(*testing.T, string) api.Errno
}{
	{"manifest", manifest("2", quoted(ociManifest), good(ociConfig), items(good(ociLayer), good(oldLayer))), asManifest},
	{"index", index("2", quoted(ociIndex), items(good(ociManifest), entry(quoted(oldManifest), quoted(digest), "1", `{"os":"a","architecture":"b"}`))), asIndex},
	{"image", image(`"linux"`, `"amd64"`, `"layers"`, items(quoted(digest))), asImage},
}

// P13.2 to P13.4: each of json.Parse's errors; a text as long, and as deep, as may be.
func TestTextsOfJSON(t *testing.T) {
	for _, x := range texts {
		tells(t, x.as, x.s, api.OK)
		for at := range len(x.s) {
			tells(t, x.as, x.s[:at], api.ErrForm)
		}
		for _, s := range []string{"", " ", "[", "{", "{]", x.s + ",", x.s + x.s, "[" + x.s, x.s[:len(x.s)-1] + ",}", "\xff", x.s + "\x00", "\ufeff" + x.s, x.s[:len(x.s)-1] + `,"a":1,"a":1}`, x.s[:len(x.s)-1] + `,"a":"\ud800"}`, x.s[:len(x.s)-1] + ",\"a\":\"\xff\"}", x.s[:len(x.s)-1] + `,"a":01}`} {
			tells(t, x.as, s, api.ErrForm)
		}
		for _, n := range []int{maxText - 1, maxText, maxText + 1, 2 * maxText} {
			want := api.OK
			if n > maxText {
				want = api.ErrLong
			}
			tells(t, x.as, times(" ", n-len(x.s))+x.s, want)
			tells(t, x.as, x.s+times("\n", n-len(x.s)), want)
			tells(t, x.as, x.s[:len(x.s)-1]+`,"a":"`+times("a", n-len(x.s)-len(`,"a":""`))+`"}`, want)
			if n > maxText {
				tells(t, x.as, times("[", n), api.ErrLong)
				tells(t, x.as, times("\xff", n), api.ErrLong)
			}
		}
		for deep := 1; deep < 20; deep++ {
			want := api.OK
			if deep > 15 {
				want = api.ErrDeep
			}
			tells(t, x.as, x.s[:len(x.s)-1]+`,"a":`+times("[", deep)+times("]", deep)+"}", want)
			tells(t, x.as, `{"a":`+times(`{"b":`, deep-1)+"{}"+times("}", deep-1)+","+x.s[1:], want)
		}
	}
}

// P13.2 to P13.4: what is no object.
func TestNoObjects(t *testing.T) {
	for _, x := range texts {
		for _, s := range []string{"null", "true", "false", "0", "2", "-1.5e3", `""`, `"a"`, quoted(x.s), "[]", "[null]", items(x.s), items(items(x.s)), "{}", fields("a", x.s), `[2]`, `["schemaVersion",2]`, `["os","a","architecture","b"]`} {
			tells(t, x.as, s, api.ErrForm)
		}
	}
}

// versions are texts of schemaVersion that are not 2 ("": it has none).
var versions = []string{"", "1", "3", "0", "-2", "-0", "20", "22", "12", "2.0", "2.00", "2e0", "2E0", "2e+0", "2e-0", "20e-1", "0.2e1", "2.5", `"2"`, `"2.0"`, `""`, `"two"`, "null", "true", "false", "[]", "[2]", "{}", `{"2":2}`, "9007199254740992", "9007199254740993", "4294967298", "18446744073709551618", "2" + times("0", 400)}

// otherMedia are texts of mediaType that are of no kind.
var otherMedia = []string{`""`, `" "`, `"text/plain"`, `"application/json"`, "null", "true", "false", "0", "2", "1", "-1", "{}", "[]", items(quoted(ociManifest)), items(quoted(ociIndex)), fields(ociManifest, "1"), quoted(ociManifest + " "), quoted(ociIndex + " "), quoted(strings.ToUpper(ociManifest)), quoted(strings.ToUpper(ociIndex))}

// P13.2, P13.3: schemaVersion and mediaType, lacking, right, and otherwise; the version's error is told ahead.
func TestHeads(t *testing.T) {
	for _, x := range []struct {
		put  func(version, media string) string
		as   func(*testing.T, string) api.Errno
		kind int
	}{
		{func(v, m string) string { return manifest(v, m, good(ociConfig), items(good(ociLayer))) }, asManifest, 1},
		{func(v, m string) string { return index(v, m, items(good(ociManifest))) }, asIndex, 2},
	} {
		tells(t, x.as, x.put("2", ""), api.OK)
		for media, kind := range mediaTypes {
			want := api.ErrKind
			if kind == x.kind {
				want = api.OK
			}
			tells(t, x.as, x.put("2", quoted(media)), want)
			tells(t, x.as, x.put("2", strings.ReplaceAll(quoted(media), "/", `\/`)), want)
			tells(t, x.as, x.put("1", quoted(media)), api.ErrForm)
		}
		for _, media := range otherMedia {
			tells(t, x.as, x.put("2", media), api.ErrKind)
		}
		for _, version := range versions {
			for _, media := range append([]string{"", quoted(ociManifest), quoted(ociIndex)}, otherMedia...) {
				tells(t, x.as, x.put(version, media), api.ErrForm)
			}
		}
	}
}

// sizes are texts of a size, and whether they are one.
var sizes = map[bool][]string{
	true:  {"0", "1", "7", "-0", "511", "512", "65536", "2147483647", "2147483648", "4294967296", "9007199254740991", "9007199254740992"},
	false: {"", "-1", "-7", "2.5", "0.5", "1.0", "0.0", "2.0", "1e0", "1e3", "1E3", "10e-1", "0e0", "9007199254740993", "9007199254740994", "-9007199254740992", "-9007199254740993", "9223372036854775807", "9223372036854775808", "18446744073709551616", "18446744073709551617", "1e400", times("9", 400), `"1"`, `""`, "null", "true", "false", "[]", "[1]", "{}"},
}

// hashes are texts of a digest, and whether they are one.
var hashes = map[bool][]string{
	true:  {quoted(digest), quoted("sha256:" + times("0", 64)), quoted("sha256:" + times("f", 64)), `"sha256\u003a` + hexDigits + `"`},
	false: {"", quoted("sha256:" + hexDigits[:63]), quoted(digest + "0"), quoted("sha256:" + hexDigits[:62]), quoted("sha256:"), quoted(hexDigits), quoted(strings.ToUpper(digest)), quoted("sha256:" + strings.ToUpper(hexDigits)), quoted("SHA256:" + hexDigits), quoted("sha512:" + hexDigits), quoted("sha257:" + hexDigits), quoted("md5:ab"), quoted("sha256-" + hexDigits), quoted("sha256:g" + hexDigits[1:]), quoted(" " + digest), quoted(digest + " "), quoted(digest + digest), `""`, "null", "true", "0", times("1", 64), "[]", items(quoted(digest)), "{}", fields(digest, "1")},
}

// medias are texts of a descriptor's mediaType, and whether they are one.
var medias = map[bool][]string{
	true:  {quoted(ociManifest), quoted(oldManifest), quoted(ociIndex), quoted(oldIndex), quoted(ociConfig), quoted(oldConfig), quoted(ociLayer), quoted(oldLayer), `""`, `" "`, `"text/plain"`, `"\u0000"`, `"é\ud83d\ude00"`, quoted(times("a", 1000))},
	false: {"", "null", "true", "false", "0", "1", "-1.5", "[]", items(quoted(ociLayer)), items(quoted(ociConfig)), "{}", fields(ociLayer, "1")},
}

// platforms are texts of a platform, and whether they are one, or none.
var platforms = map[bool][]string{
	true:  {"", `{"os":"linux","architecture":"amd64"}`, `{"architecture":"arm64","os":"linux"}`, `{"os":"","architecture":""}`, `{"os":"a","architecture":""}`, `{"os":"","architecture":"a"}`, `{"os":"a","architecture":"b","variant":"v8","os.version":1,"os.features":[null]}`, `{"x":{},"os":"\u0001\"\\","y":[],"architecture":"é"}`},
	false: {"null", "true", "false", "0", `""`, `"linux"`, "[]", `["linux","amd64"]`, `[{"os":"a","architecture":"b"}]`, "{}", `{"os":"a"}`, `{"architecture":"b"}`, `{"os":"a","arch":"b"}`, `{"OS":"a","architecture":"b"}`, `{"os":"a","Architecture":"b"}`, `{"os":null,"architecture":"b"}`, `{"os":"a","architecture":null}`, `{"os":1,"architecture":"b"}`, `{"os":"a","architecture":2}`, `{"os":["a"],"architecture":"b"}`, `{"os":"a","architecture":["b"]}`, `{"os":{"a":"a"},"architecture":"b"}`, `{"os":"a","architecture":{}}`, `{"os":true,"architecture":"b"}`, `{"os":"a","architecture":false}`},
}

// descriptors hands on texts of descriptors, and whether they are some: each with at most one part that is none.
func descriptors(media string, f func(s string, ok bool)) {
	for _, ok := range []bool{true, false} {
		for _, x := range medias[ok] {
			f(entry(x, quoted(digest), "7", ""), ok)
			f(entry(x, quoted(digest), "7", `{"os":"a","architecture":"b"}`), ok)
		}
		for _, x := range hashes[ok] {
			f(entry(quoted(media), x, "7", ""), ok)
		}
		for _, x := range sizes[ok] {
			f(entry(quoted(media), quoted(digest), x, ""), ok)
		}
		for _, x := range platforms[ok] {
			f(entry(quoted(media), quoted(digest), "7", x), ok)
		}
	}
	for _, x := range []string{"null", "true", "false", "0", "7", `""`, quoted(media), quoted(digest), "[]", items(quoted(media), quoted(digest), "7"), items(good(media)), "{}", fields("a", good(media)), fields("MediaType", quoted(media), "Digest", quoted(digest), "Size", "7"), fields("mediaType", quoted(media), "digest", quoted(digest), "Size", "7"), fields("mediatype", quoted(media), "digest", quoted(digest), "size", "7")} {
		f(x, false)
	}
}

// P13.2: config: lacking, no object, and each part of it; it is told also where the layers are wrong.
func TestConfigs(t *testing.T) {
	layers := items(good(ociLayer))
	tells(t, asManifest, manifest("2", "", "", layers), api.ErrForm)
	tells(t, asManifest, manifest("2", "", "", ""), api.ErrForm)
	descriptors(ociConfig, func(s string, ok bool) {
		asManifest(t, manifest("2", "", s, layers))
		if !ok {
			tells(t, asManifest, manifest("2", "", s, layers), api.ErrForm)
			tells(t, asManifest, manifest("2", "", s, items(copies(good(ociLayer), 9)...)), api.ErrForm)
			tells(t, asManifest, manifest("2", "", s, items(good("x"))), api.ErrForm)
			tells(t, asManifest, manifest("2", quoted(ociIndex), s, layers), api.ErrKind)
		} else if d, _ := descriptorOf(mustValue(t, s)); mediaTypes[d.Media] == 3 {
			tells(t, asManifest, manifest("2", "", s, layers), api.OK)
		} else {
			tells(t, asManifest, manifest("2", "", s, layers), api.ErrKind)
		}
	})
	for media, kind := range mediaTypes {
		want := api.ErrKind
		if kind == 3 {
			want = api.OK
		}
		tells(t, asManifest, manifest("2", "", good(media), layers), want)
	}
}

// mustValue is a text's value.
func mustValue(t *testing.T, s string) any {
	t.Helper()
	x, e := valueOf(s)
	if e != api.OK {
		t.Fatalf("%s: %d", s, said(e))
	}
	return x
}

// noLists are texts that are no list of descriptors, or of digests, but for such with one that is none ("": there is none).
var noLists = []string{"", "null", "true", "false", "0", "2", `""`, `"a"`, quoted(digest), "{}", good(ociLayer), fields("0", good(ociLayer)), fields("layers", "[]"), quoted("[]")}

// P13.2: layers: lacking, no list, empty, and one that is no descriptor at each place of lists of all sizes.
func TestLayers(t *testing.T) {
	config := good(ociConfig)
	for _, s := range noLists {
		tells(t, asManifest, manifest("2", "", config, s), api.ErrForm)
	}
	for n := range 12 {
		l := copies(good(ociLayer), n)
		want := api.OK
		if n > maxLayers {
			want = api.ErrMany
		}
		tells(t, asManifest, manifest("2", "", config, items(l...)), want)
		for at := range l {
			for _, s := range []string{"null", "0", quoted(digest), "[]", "{}", items(l...), entry(quoted(ociLayer), quoted(digest), "-1", ""), entry(quoted(ociLayer), quoted(digest), "1", "null")} {
				x := slices.Clone(l)
				x[at] = s
				tells(t, asManifest, manifest("2", "", config, items(x...)), api.ErrForm)
			}
			for _, media := range []string{"", "text/plain", ociConfig, oldConfig, ociManifest, ociIndex, ociLayer + "+gzip"} {
				x := slices.Clone(l)
				x[at] = good(media)
				wantKind := api.ErrKind
				if n > maxLayers {
					wantKind = api.ErrMany
				}
				tells(t, asManifest, manifest("2", "", config, items(x...)), wantKind)
			}
			x := slices.Clone(l)
			x[at] = good(oldLayer)
			tells(t, asManifest, manifest("2", "", config, items(x...)), want)
		}
	}
	descriptors(ociLayer, func(s string, ok bool) {
		for _, l := range [][]string{{s}, {s, good(ociLayer)}, {good(oldLayer), s}, append(copies(good(ociLayer), 7), s), append(copies(good(ociLayer), 8), s)} {
			asManifest(t, manifest("2", "", config, items(l...)))
			if !ok {
				tells(t, asManifest, manifest("2", "", config, items(l...)), api.ErrForm)
			}
		}
	})
}

// P13.2: all combinations of what may be wrong: the first error is told.
func TestManifestErrorsInOrder(t *testing.T) {
	bad := entry(quoted(ociLayer), quoted(digest), "-1", "")
	one, nine := good(ociLayer), copies(good(ociLayer), 9)
	type piece struct {
		s string
		e api.Errno
	}
	count := map[api.Errno]int{}
	for _, version := range []piece{{"2", 0}, {"", api.ErrForm}, {"1", api.ErrForm}, {"2.0", api.ErrForm}, {"null", api.ErrForm}} {
		for _, media := range []piece{{"", 0}, {quoted(ociManifest), 0}, {quoted(oldManifest), 0}, {quoted(ociIndex), api.ErrKind}, {"null", api.ErrKind}, {"2", api.ErrKind}} {
			for _, config := range []piece{{good(ociConfig), 0}, {good(oldConfig), 0}, {"", api.ErrForm}, {"null", api.ErrForm}, {bad, api.ErrForm}, {good(ociLayer), api.ErrKind}, {good(""), api.ErrKind}} {
				for _, layers := range []piece{
					{items(), 0}, {items(one), 0}, {items(nine[:8]...), 0},
					{"", api.ErrForm}, {"{}", api.ErrForm}, {items("null"), api.ErrForm}, {items(one, bad), api.ErrForm}, {items(append(nine[:8:8], bad)...), api.ErrForm}, {items(append([]string{bad}, nine...)...), api.ErrForm},
					{items(nine...), api.ErrMany}, {items(append([]string{good("x")}, nine...)...), api.ErrMany},
					{items(good("x")), api.ErrKind}, {items(one, good(ociConfig)), api.ErrKind}, {items(append(nine[:7:7], good(ociManifest))...), api.ErrKind},
				} {
					noConfig := config.e == api.ErrForm
					want := firstOf(
						condition{version.e != 0, version.e},
						condition{media.e != 0, media.e},
						condition{noConfig, config.e},
						condition{layers.e == api.ErrForm, layers.e},
						condition{layers.e == api.ErrMany, layers.e},
						condition{config.e != 0, config.e},
						condition{layers.e != 0, layers.e},
					)
					tells(t, asManifest, manifest(version.s, media.s, config.s, layers.s), want)
					count[want]++
				}
			}
		}
	}
	if len(count) != 4 || count[api.OK] != 3*2*3 {
		t.Errorf("errors %v", count)
	}
}

// P13.2: what a manifest tells: kinds of both forms, sizes, and no platforms.
func TestManifestTold(t *testing.T) {
	platform := `{"os":"linux","architecture":"amd64"}`
	zero := quoted("sha256:" + times("0", 64))
	for _, config := range []string{ociConfig, oldConfig} {
		for _, first := range []string{ociLayer, oldLayer} {
			for _, second := range []string{ociLayer, oldLayer} {
				s := manifest("2", "", entry(quoted(config), quoted(digest), "9007199254740992", platform), items(entry(quoted(first), zero, "0", platform), entry(quoted(second), quoted(digest), "3", "")))
				m, e := Manifest(s)
				want := api.Manifest{Config: descriptor(config, biggest, "", ""), Layers: []api.Descriptor{{Media: first}, descriptor(second, 3, "", "")}}
				if e != api.OK || !reflect.DeepEqual(m, want) {
					t.Errorf("Manifest(%s) = %+v, %d; want %+v", s, m, said(e), want)
				}
			}
		}
	}
	m, e := Manifest(manifest("2", quoted(oldManifest), good(oldConfig), "[]"))
	if e != api.OK || m.Config != descriptor(oldConfig, 7, "", "") || len(m.Layers) != 0 {
		t.Errorf("%+v, %d", m, said(e))
	}
}

// P13.3: manifests: lacking, no list, empty, one that is no descriptor at each place, and too many.
func TestManifests(t *testing.T) {
	for _, s := range noLists {
		tells(t, asIndex, index("2", "", s), api.ErrForm)
	}
	tells(t, asIndex, fields("schemaVersion", "2", "layers", "[]"), api.ErrForm)
	for n := range 36 {
		l := copies(good(ociManifest), n)
		want := api.OK
		if n > maxParts {
			want = api.ErrMany
		}
		tells(t, asIndex, index("2", "", items(l...)), want)
		tells(t, asIndex, index("2", quoted(oldIndex), items(l...)), want)
		tells(t, asIndex, index("2", quoted(ociManifest), items(l...)), api.ErrKind)
		tells(t, asIndex, index("2.0", "", items(l...)), api.ErrForm)
		for at := range l {
			for _, s := range []string{"null", "[]", "{}", quoted(digest), entry(quoted(ociManifest), quoted(digest), "2.5", ""), entry(quoted(ociManifest), quoted(digest), "1", `{"os":"a"}`)} {
				x := slices.Clone(l)
				x[at] = s
				tells(t, asIndex, index("2", "", items(x...)), api.ErrForm)
			}
			x := slices.Clone(l)
			x[at] = good("text/plain")
			tells(t, asIndex, index("2", "", items(x...)), want)
		}
	}
	descriptors(ociManifest, func(s string, ok bool) {
		want := api.OK
		if !ok {
			want = api.ErrForm
		}
		tells(t, asIndex, index("2", "", items(s)), want)
		tells(t, asIndex, index("2", "", items(good(ociManifest), s, good(ociIndex))), want)
		tells(t, asIndex, index("2", "", items(append(copies(good(ociManifest), 31), s)...)), want)
		if ok {
			want = api.ErrMany
		}
		tells(t, asIndex, index("2", "", items(append(copies(good(ociManifest), 32), s)...)), want)
	})
}

// P13.3: what an index tells: of any media types, with platforms, in order.
func TestIndexTold(t *testing.T) {
	s := index("2", quoted(oldIndex), items(
		entry(quoted(ociManifest), quoted(digest), "1", `{"os":"linux","architecture":"amd64"}`),
		entry(`"é\n\ud83d\ude00"`, quoted(digest), "9007199254740992", `{"architecture":"\u0000","os":"\"\\"}`),
		entry(`""`, quoted("sha256:"+times("0", 64)), "0", ""),
		entry(quoted(ociManifest), quoted(digest), "1", `{"os":"linux","architecture":"amd64"}`),
	))
	want := []api.Descriptor{descriptor(ociManifest, 1, "linux", "amd64"), descriptor("é\n😀", biggest, "\"\\", "\x00"), {}, descriptor(ociManifest, 1, "linux", "amd64")}
	if l, e := Index(s); e != api.OK || !slices.Equal(l, want) {
		t.Errorf("Index = %+v, %d; want %+v", l, said(e), want)
	}
	if l, e := Index(`{"schemaVersion":2,"manifests":[]}`); e != api.OK || len(l) != 0 {
		t.Errorf("Index = %+v, %d", l, said(e))
	}
}

// noTexts are texts of JSON that are no strings ("": there is none).
var noTexts = []string{"", "null", "true", "false", "0", "2", "[]", `["a"]`, `["layers"]`, "{}", `{"a":"a"}`}

// P13.4: os, architecture, rootfs, type and diff_ids, each lacking, and of other types.
func TestImageParts(t *testing.T) {
	a, b, layers, diffs := `"a"`, `"b"`, `"layers"`, items(quoted(digest))
	tells(t, asImage, image(a, b, layers, diffs), api.OK)
	tells(t, asImage, image(`""`, `""`, layers, "[]"), api.OK)
	for _, s := range noTexts {
		tells(t, asImage, image(s, b, layers, diffs), api.ErrForm)
		tells(t, asImage, image(a, s, layers, diffs), api.ErrForm)
		tells(t, asImage, image(a, b, s, diffs), api.ErrForm)
		tells(t, asImage, image(s, s, s, diffs), api.ErrForm)
	}
	for _, s := range []string{`""`, `"layer"`, `"layerss"`, `"Layers"`, `"LAYERS"`, `" layers"`, `"layers "`, `"layers\u0000"`, `"a"`, `"diff_ids"`} {
		tells(t, asImage, image(a, b, s, diffs), api.ErrForm)
	}
	tells(t, asImage, image(a, b, `"\u006cayers"`, diffs), api.OK)
	for _, s := range noLists {
		tells(t, asImage, image(a, b, layers, s), api.ErrForm)
	}
	root := fields("type", layers, "diff_ids", diffs)
	for _, s := range []string{"", "null", "true", "0", `""`, `"layers"`, "[]", diffs, items(root), quoted(root), "{}", fields("rootfs", root), fields("Type", layers, "diff_ids", diffs), fields("type", layers, "diffids", diffs), fields("type", layers, "Diff_ids", diffs)} {
		tells(t, asImage, fields("os", a, "architecture", b, "rootfs", s), api.ErrForm)
	}
	// Parts that stand elsewhere are none.
	for _, s := range []string{
		fields("OS", a, "architecture", b, "rootfs", root),
		fields("os", a, "Architecture", b, "rootfs", root),
		fields("os", a, "architecture", b, "RootFS", root),
		fields("os", a, "architecture", b, "type", layers, "diff_ids", diffs),
		fields("platform", fields("os", a, "architecture", b), "rootfs", root),
		fields("os", a, "rootfs", fields("architecture", b, "type", layers, "diff_ids", diffs)),
	} {
		tells(t, asImage, s, api.ErrForm)
	}
}

// P13.4: diff_ids: one that is no digest's text at each place of lists of all sizes; 8, and 9.
func TestImageDiffs(t *testing.T) {
	for n := range 12 {
		l := copies(quoted(digest), n)
		want := api.OK
		if n > maxLayers {
			want = api.ErrMany
		}
		tells(t, asImage, image(`"a"`, `"b"`, `"layers"`, items(l...)), want)
		tells(t, asImage, image("1", `"b"`, `"layers"`, items(l...)), api.ErrForm)
		tells(t, asImage, image(`"a"`, "", `"layers"`, items(l...)), api.ErrForm)
		tells(t, asImage, image(`"a"`, `"b"`, `"layer"`, items(l...)), api.ErrForm)
		for at := range l {
			for _, ok := range []bool{true, false} {
				for _, s := range hashes[ok] {
					if s == "" {
						continue
					}
					x := slices.Clone(l)
					x[at] = s
					wantOne := want
					if !ok {
						wantOne = api.ErrForm
					}
					tells(t, asImage, image(`"a"`, `"b"`, `"layers"`, items(x...)), wantOne)
				}
			}
		}
	}
	i, e := Image(image(`"\u0000\"é"`, `"😀"`, `"layers"`, items(quoted("sha256:"+times("0", 64)), quoted(digest))))
	want := api.Image{Platform: api.Platform{OS: "\x00\"é", Arch: "😀"}, Diffs: []api.Digest{{}, known()}}
	if e != api.OK || !sameImage(i, want) {
		t.Errorf("Image = %+v, %d; want %+v", i, said(e), want)
	}
}

// P13.2 to P13.4: what reads one of the three reads none of the others.
func TestOneIsNoOther(t *testing.T) {
	for _, x := range texts {
		for _, y := range texts {
			if x.name == y.name {
				continue
			}
			if e := x.as(t, y.s); e == api.OK {
				t.Errorf("a text of %s is read as %s", y.name, x.name)
			}
		}
	}
	tells(t, asManifest, texts[1].s, api.ErrKind)
	tells(t, asIndex, texts[0].s, api.ErrKind)
	tells(t, asManifest, texts[2].s, api.ErrForm)
	tells(t, asIndex, texts[2].s, api.ErrForm)
	tells(t, asImage, texts[0].s, api.ErrForm)
	tells(t, asImage, texts[1].s, api.ErrForm)
}

// P13.2 to P13.4: texts of which a byte is changed, left out, or put in, at each place.
func TestEachByte(t *testing.T) {
	for _, x := range texts {
		for at := range len(x.s) {
			x.as(t, x.s[:at]+x.s[at+1:])
			for _, put := range []string{" ", "0", "1", "2", "9", "-", ".", "e", "a", "A", "{", "}", "[", "]", ",", ":", `"`, `\`, "\x00", "\xff"} {
				x.as(t, x.s[:at]+put+x.s[at:])
				x.as(t, x.s[:at]+put+x.s[at+1:])
			}
		}
	}
}

// mixedPart is the text of a descriptor by chance, most of which are some.
func mixedPart(r *numbers, media string) string {
	pick := func(m map[bool][]string, l ...string) string {
		if r.below(40) > 0 && len(l) > 0 {
			return l[r.below(len(l))]
		}
		return r.one(m[r.below(4) > 0])
	}
	l := [][2]string{
		{"mediaType", pick(medias, quoted(media))}, {"digest", pick(hashes, quoted(digest))}, {"size", pick(sizes, "1", "512")}, {"platform", pick(platforms, "", "", `{"os":"a","architecture":"b"}`)},
	}
	return mixedFields(r, l)
}

// mixedFields is the text of an object with these fields, and others, in an order by chance.
func mixedFields(r *numbers, l [][2]string) string {
	for i := range r.below(3) {
		l = append(l, [2]string{fmt.Sprintf("%c%d", 'a'+rune(r.below(3)), i), r.one([]string{"null", "1", `"x"`, "[]", "{}", `[{"os":1}]`, `{"size":-1}`, quoted(digest)})})
	}
	for i := range l {
		j := i + r.below(len(l)-i)
		l[i], l[j] = l[j], l[i]
	}
	var flat []string
	for _, x := range l {
		flat = append(flat, x[0], x[1])
	}
	return fields(flat...)
}

// mixedParts is the text of a list of descriptors by chance.
func mixedParts(r *numbers, most int, l ...string) string {
	var parts []string
	for range r.below(most) {
		parts = append(parts, mixedPart(r, r.one(l)))
	}
	return items(parts...)
}

// P13.2 to P13.4: texts by chance, with other keys and in any order.
func TestReadMixed(t *testing.T) {
	r := &numbers{last: 13}
	count := map[string]map[api.Errno]int{"manifest": {}, "index": {}, "image": {}}
	for range 2000 {
		version, media := "2", r.one([]string{"", "", quoted(ociManifest), quoted(oldManifest), quoted(ociIndex), "null"})
		if r.below(20) == 0 {
			version = r.one(versions)
		}
		s := mixedFields(r, [][2]string{{"schemaVersion", version}, {"mediaType", media}, {"config", mixedPart(r, r.one([]string{ociConfig, oldConfig}))}, {"layers", mixedParts(r, 11, ociLayer, oldLayer)}})
		count["manifest"][asManifest(t, s)]++
		media = r.one([]string{"", "", quoted(ociIndex), quoted(oldIndex), quoted(ociManifest), "null"})
		s = mixedFields(r, [][2]string{{"schemaVersion", version}, {"mediaType", media}, {"manifests", mixedParts(r, 5+45*(r.below(3)/2), ociManifest, oldManifest, "x")}})
		count["index"][asIndex(t, s)]++
		var diffs []string
		for range r.below(11) {
			s := r.one(hashes[r.below(100) > 0])
			if s != "" {
				diffs = append(diffs, s)
			}
		}
		root := mixedFields(r, [][2]string{{"type", r.one([]string{`"layers"`, `"layers"`, `"layers"`, `"layer"`})}, {"diff_ids", items(diffs...)}})
		s = mixedFields(r, [][2]string{{"os", r.one([]string{`"linux"`, `"a"`, `""`, "1"})}, {"architecture", r.one([]string{`"amd64"`, `"a"`, `""`, "null"})}, {"rootfs", root}})
		count["image"][asImage(t, s)]++
	}
	for name, l := range count {
		if l[api.OK] < 30 || l[api.ErrForm] < 30 || l[api.ErrMany] < 30 || name != "image" && l[api.ErrKind] < 30 {
			t.Errorf("%s: %v", name, l)
		}
	}
}

// mayBeOne tells whether a descriptor may be, by the document's words.
func mayBeOne(d api.Descriptor) bool {
	return d.Size >= 0 && d.Size <= biggest && utf8.ValidString(d.Media) && utf8.ValidString(d.Platform.OS) && utf8.ValidString(d.Platform.Arch)
}

// allMayBe tells that of all of them.
func allMayBe(l []api.Descriptor) bool {
	ok := true
	for _, d := range l {
		ok = ok && mayBeOne(d)
	}
	return ok
}

// writtenDigest is a digest's text of JSON.
func writtenDigest(d api.Digest) string { return quoted("sha256:" + hex.EncodeToString(d[:])) }

// writtenPart is a descriptor's text, by the document's words.
func writtenPart(d api.Descriptor, platform bool) string {
	p := ""
	if platform {
		p = fields("os", quoted(d.Platform.OS), "architecture", quoted(d.Platform.Arch))
	}
	return entry(quoted(d.Media), writtenDigest(d.Digest), strconv.Itoa(d.Size), p)
}

// writtenParts is the text of a list of them.
func writtenParts(l []api.Descriptor, platforms bool) string {
	var parts []string
	for _, d := range l {
		parts = append(parts, writtenPart(d, platforms))
	}
	return items(parts...)
}

// putManifestOf is what PutManifest tells by the document's words.
func putManifestOf(m api.Manifest) (string, api.Errno) {
	otherLayer := slices.ContainsFunc(m.Layers, func(d api.Descriptor) bool { return mediaTypes[d.Media] != 4 })
	e := firstOf(
		condition{!mayBeOne(m.Config) || !allMayBe(m.Layers), api.ErrArg},
		condition{len(m.Layers) > maxLayers, api.ErrMany},
		condition{mediaTypes[m.Config.Media] != 3 || otherLayer, api.ErrKind},
	)
	if e != api.OK {
		return "", e
	}
	return manifest("2", quoted(ociManifest), writtenPart(m.Config, false), writtenParts(m.Layers, false)), api.OK
}

// putIndexOf is what PutIndex tells by the document's words.
func putIndexOf(l []api.Descriptor) (string, api.Errno) {
	e := firstOf(condition{!allMayBe(l), api.ErrArg}, condition{len(l) > maxParts, api.ErrMany})
	if e != api.OK {
		return "", e
	}
	s := index("2", quoted(ociIndex), writtenParts(l, true))
	if len(s) > maxText {
		return "", api.ErrLong
	}
	return s, api.OK
}

// putImageOf is what PutImage tells by the document's words.
func putImageOf(i api.Image) (string, api.Errno) {
	mayBe := utf8.ValidString(i.Platform.OS) && utf8.ValidString(i.Platform.Arch)
	e := firstOf(condition{!mayBe, api.ErrArg}, condition{len(i.Diffs) > maxLayers, api.ErrMany})
	if e != api.OK {
		return "", e
	}
	var diffs []string
	for _, d := range i.Diffs {
		diffs = append(diffs, writtenDigest(d))
	}
	s := fields("architecture", quoted(i.Platform.Arch), "os", quoted(i.Platform.OS), "rootfs", fields("type", `"layers"`, "diff_ids", items(diffs...)))
	if len(s) > maxText {
		return "", api.ErrLong
	}
	return s, api.OK
}

// plain is a manifest without platforms.
func plain(m api.Manifest) api.Manifest {
	m.Config.Platform = api.Platform{}
	m.Layers = slices.Clone(m.Layers)
	for i := range m.Layers {
		m.Layers[i].Platform = api.Platform{}
	}
	return m
}

// puts fails, if something is not put as the document's words do, or P13.7 does not hold of it, which is read as it should be.
func puts[T any](t *testing.T, x, should T, put, words func(T) (string, api.Errno), read func(string) (T, api.Errno), same func(a, b T) bool) api.Errno {
	t.Helper()
	want, wantE := words(x)
	s, e := put(x)
	if s != want || e != wantE {
		t.Fatalf("%.600q is put as %.600s, %d; want %.600s, %d", fmt.Sprint(x), s, said(e), want, said(wantE))
	}
	if e != api.OK {
		return e
	}
	y, yE := read(s)
	again, againE := put(y)
	if yE != api.OK || !same(y, should) || again != s || againE != api.OK {
		t.Fatalf("%.600s is read as %.600q, %d; put again: %.600s, %d", s, fmt.Sprint(y), said(yE), again, said(againE))
	}
	return e
}

// putsManifest does that of PutManifest.
func putsManifest(t *testing.T, m api.Manifest) api.Errno {
	t.Helper()
	return puts(t, m, plain(m), PutManifest, putManifestOf, Manifest, sameManifest)
}

// putsIndex does that of PutIndex.
func putsIndex(t *testing.T, l []api.Descriptor) api.Errno {
	t.Helper()
	return puts(t, l, l, PutIndex, putIndexOf, Index, slices.Equal[[]api.Descriptor])
}

// putsImage does that of PutImage.
func putsImage(t *testing.T, i api.Image) api.Errno {
	t.Helper()
	return puts(t, i, i, PutImage, putImageOf, Image, sameImage)
}

// is fails, if an error is another one.
func is(t *testing.T, e, want api.Errno) {
	t.Helper()
	if e != want {
		t.Errorf("%d; want %d", said(e), said(want))
	}
}

// P13.5: the texts, written out.
func TestPutTexts(t *testing.T) {
	zero := "sha256:" + times("0", 64)
	m := api.Manifest{Config: descriptor(oldConfig, biggest, "a", "b"), Layers: []api.Descriptor{descriptor(ociLayer, 5, "c", ""), {Media: oldLayer}}}
	want := `{"schemaVersion":2,"mediaType":"application/vnd.oci.image.manifest.v1+json",` +
		`"config":{"mediaType":"application/vnd.docker.container.image.v1+json","digest":"` + digest + `","size":9007199254740992},` +
		`"layers":[{"mediaType":"application/vnd.oci.image.layer.v1.tar","digest":"` + digest + `","size":5},` +
		`{"mediaType":"application/vnd.docker.image.rootfs.diff.tar","digest":"` + zero + `","size":0}]}`
	if s, e := PutManifest(m); s != want || e != api.OK {
		t.Errorf("PutManifest = %s, %d", s, said(e))
	}
	want = `{"schemaVersion":2,"mediaType":"application/vnd.oci.image.index.v1+json","manifests":[` +
		`{"mediaType":"a\"\\\n\u0001é😀/","digest":"` + digest + `","size":1,"platform":{"os":"linux","architecture":"amd64"}},` +
		`{"mediaType":"","digest":"` + zero + `","size":0,"platform":{"os":"","architecture":""}}]}`
	if s, e := PutIndex([]api.Descriptor{descriptor("a\"\\\n\x01é😀/", 1, "linux", "amd64"), {}}); s != want || e != api.OK {
		t.Errorf("PutIndex = %s, %d", s, said(e))
	}
	want = `{"architecture":"b` + "\x7f" + `","os":"\ta\u0000","rootfs":{"type":"layers","diff_ids":["` + zero + `","` + digest + `"]}}`
	if s, e := PutImage(api.Image{Platform: api.Platform{OS: "\ta\x00", Arch: "b\x7f"}, Diffs: []api.Digest{{}, known()}}); s != want || e != api.OK {
		t.Errorf("PutImage = %s, %d; want %s", s, said(e), want)
	}
	// The empty lists.
	for _, l := range [][]api.Descriptor{nil, {}} {
		want = `{"schemaVersion":2,"mediaType":"application/vnd.oci.image.index.v1+json","manifests":[]}`
		if s, e := PutIndex(l); s != want || e != api.OK {
			t.Errorf("PutIndex = %s, %d", s, said(e))
		}
		want = `{"schemaVersion":2,"mediaType":"application/vnd.oci.image.manifest.v1+json","config":{"mediaType":"application/vnd.oci.image.config.v1+json","digest":"` + zero + `","size":0},"layers":[]}`
		if s, e := PutManifest(api.Manifest{Config: api.Descriptor{Media: ociConfig}, Layers: l}); s != want || e != api.OK {
			t.Errorf("PutManifest = %s, %d", s, said(e))
		}
	}
	for _, l := range [][]api.Digest{nil, {}} {
		want = `{"architecture":"","os":"","rootfs":{"type":"layers","diff_ids":[]}}`
		if s, e := PutImage(api.Image{Diffs: l}); s != want || e != api.OK {
			t.Errorf("PutImage = %s, %d", s, said(e))
		}
	}
}

// noUTF8 are texts that are not UTF-8.
var noUTF8 = []string{"\xff", "a\xff", "\xffa", "é\xc3", "\xc3", "\x80", "\xc0\x80", "\xed\xa0\x80", "\xf4\x90\x80\x80", "\xf0\x9f\x98", "linux\xfe", ociLayer + "\xff", ociConfig + "\x80"}

// faults hands on what a descriptor that may be is with one thing alone that may not.
func faults(d api.Descriptor, f func(api.Descriptor)) {
	for _, n := range []int{-1, -2, -biggest, biggest + 1, biggest + 2, 1 << 62, 1<<63 - 1, -1 << 63} {
		x := d
		x.Size = n
		f(x)
	}
	for _, s := range noUTF8 {
		x := d
		x.Media = s
		f(x)
		x = d
		x.Platform.OS = s
		f(x)
		x = d
		x.Platform.Arch = s
		f(x)
	}
}

// with is a list with another one at a place.
func with(l []api.Descriptor, at int, d api.Descriptor) []api.Descriptor {
	l = slices.Clone(l)
	l[at] = d
	return l
}

// P13.5: sizes, and texts that are not UTF-8, alone, at each place, also of lists that are too long, and beside kinds that do not fit.
func TestPutFaults(t *testing.T) {
	config, layer := descriptor(ociConfig, 3, "a", "b"), descriptor(ociLayer, 4, "c", "d")
	faults(config, func(d api.Descriptor) {
		for _, n := range []int{0, 1, 8, 9} {
			is(t, putsManifest(t, api.Manifest{Config: d, Layers: slices.Repeat([]api.Descriptor{layer}, n)}), api.ErrArg)
		}
		is(t, putsManifest(t, api.Manifest{Config: d, Layers: []api.Descriptor{config}}), api.ErrArg)
	})
	for n := range 11 {
		l := slices.Repeat([]api.Descriptor{layer}, n)
		for at := range l {
			faults(layer, func(d api.Descriptor) {
				is(t, putsManifest(t, api.Manifest{Config: config, Layers: with(l, at, d)}), api.ErrArg)
				is(t, putsManifest(t, api.Manifest{Config: layer, Layers: with(l, at, d)}), api.ErrArg)
				if n > 1 {
					other := with(l, (at+1)%n, config)
					is(t, putsManifest(t, api.Manifest{Config: config, Layers: with(other, at, d)}), api.ErrArg)
				}
			})
		}
	}
	one := descriptor(ociManifest, 4, "c", "d")
	for n := range 36 {
		l := slices.Repeat([]api.Descriptor{one}, n)
		for at := range l {
			faults(one, func(d api.Descriptor) { is(t, putsIndex(t, with(l, at, d)), api.ErrArg) })
		}
	}
	for n := range 11 {
		diffs := slices.Repeat([]api.Digest{known()}, n)
		for _, s := range noUTF8 {
			is(t, putsImage(t, api.Image{Platform: api.Platform{OS: s}, Diffs: diffs}), api.ErrArg)
			is(t, putsImage(t, api.Image{Platform: api.Platform{Arch: s}, Diffs: diffs}), api.ErrArg)
			is(t, putsImage(t, api.Image{Platform: api.Platform{OS: s, Arch: s}, Diffs: diffs}), api.ErrArg)
		}
	}
}

// P13.5: sizes 0 and 2^53 may be, at each place.
func TestPutSizes(t *testing.T) {
	for _, size := range []int{0, 1, 1 << 31, biggest - 1, biggest} {
		for at := range maxLayers {
			l := slices.Repeat([]api.Descriptor{descriptor(ociLayer, 1, "", "")}, maxLayers)
			l[at].Size = size
			is(t, putsManifest(t, api.Manifest{Config: descriptor(oldConfig, size, "x", "y"), Layers: l}), api.OK)
		}
		for at := range maxParts {
			l := slices.Repeat([]api.Descriptor{descriptor("x", 1, "a", "b")}, maxParts)
			l[at].Size = size
			is(t, putsIndex(t, l), api.OK)
		}
	}
}

// P13.5: too many; kinds that do not fit, at each place, and behind too many.
func TestPutManyAndKinds(t *testing.T) {
	config, layer := descriptor(ociConfig, 3, "", ""), descriptor(ociLayer, 4, "", "")
	kinds := []string{"", "text/plain", "é", ociLayer + "+gzip"}
	for media := range mediaTypes {
		kinds = append(kinds, media)
	}
	for n := range 12 {
		l := slices.Repeat([]api.Descriptor{layer}, n)
		for _, media := range kinds {
			want, wantLayer := api.ErrKind, api.ErrKind
			if mediaTypes[media] == 3 {
				want = api.OK
			}
			if mediaTypes[media] == 4 {
				wantLayer = api.OK
			}
			if n > maxLayers {
				want, wantLayer = api.ErrMany, api.ErrMany
			}
			is(t, putsManifest(t, api.Manifest{Config: descriptor(media, 1, "a", ""), Layers: l}), want)
			for at := range l {
				is(t, putsManifest(t, api.Manifest{Config: config, Layers: with(l, at, descriptor(media, 1, "", "a"))}), wantLayer)
			}
		}
		want := api.OK
		if n > maxLayers {
			want = api.ErrMany
		}
		is(t, putsImage(t, api.Image{Diffs: slices.Repeat([]api.Digest{known()}, n)}), want)
	}
	for _, n := range []int{0, 1, 2, 31, 32, 33, 34, 1000, 1 << 16} {
		want := api.OK
		if n > maxParts {
			want = api.ErrMany
		}
		for _, media := range kinds {
			is(t, putsIndex(t, slices.Repeat([]api.Descriptor{descriptor(media, n, "a", "b")}, n)), want)
		}
	}
	is(t, putsManifest(t, api.Manifest{Config: config, Layers: make([]api.Descriptor, 1<<16)}), api.ErrMany)
	is(t, putsManifest(t, api.Manifest{}), api.ErrKind)
	is(t, putsManifest(t, api.Manifest{Layers: make([]api.Descriptor, 9)}), api.ErrMany)
	is(t, putsImage(t, api.Image{Diffs: make([]api.Digest, 1<<16)}), api.ErrMany)
}

// P13.5: texts with quotes, backslashes, control bytes, and letters beyond ASCII, in each field.
func TestPutRunes(t *testing.T) {
	texts := []string{"", "a", `"`, `\`, `\"`, `""`, `\u0041`, "/", "<>&'", "é", "€", "😀", "\u2028\u2029", "\ufeff", "\ufffd", "\uffff", "\U0010ffff", "\u0080", "\x7f", " ", `{"os":"a"}`, "a,b", times(`"\`, 50)}
	for c := range rune(0x100) {
		texts = append(texts, string(c), "a"+string(c)+"b")
	}
	for _, s := range texts {
		for _, d := range []api.Descriptor{descriptor(s, 1, "a", "b"), descriptor("x", 2, s, "b"), descriptor("x", 3, "a", s), descriptor(s, 4, s, s)} {
			is(t, putsIndex(t, []api.Descriptor{d}), api.OK)
			is(t, putsIndex(t, []api.Descriptor{descriptor("y", 0, "", ""), d, d}), api.OK)
			is(t, putsImage(t, api.Image{Platform: d.Platform, Diffs: []api.Digest{known()}}), api.OK)
		}
		m := api.Manifest{Config: descriptor(ociConfig, 1, s, "a"), Layers: []api.Descriptor{descriptor(ociLayer, 1, "a", s)}}
		is(t, putsManifest(t, m), api.OK)
	}
}

// P13.5: a text of 65536 bytes is told, a longer one not.
func TestPutLong(t *testing.T) {
	for _, x := range []string{"a", `"`, "\x01", "é", "😀"} {
		for _, field := range []int{0, 1, 2} {
			filled := func(n int) api.Descriptor {
				d, s := descriptor("", 7, "", ""), times(x, n)
				switch field {
				case 0:
					d.Media = s
				case 1:
					d.Platform.OS = s
				case 2:
					d.Platform.Arch = s
				}
				return d
			}
			unit := len(quoted(x)) - 2
			empty := len(index("2", quoted(ociIndex), items(writtenPart(filled(0), true))))
			n := (maxText - empty) / unit
			for k := -1; k <= 1; k++ {
				d := filled(n + k)
				// What is left of 65536 bytes is filled up by bytes of one.
				rest := max(0, maxText-empty-(n+k)*unit)
				for more := -1; more <= 1; more++ {
					y := d
					y.Media += times("b", max(0, rest+more))
					want := api.OK
					if empty+(n+k)*unit+max(0, rest+more) > maxText {
						want = api.ErrLong
					}
					is(t, putsIndex(t, []api.Descriptor{y}), want)
				}
			}
		}
	}
	empty := len(image(`""`, `""`, `"layers"`, items(quoted(digest))))
	for size := maxText - 3; size < maxText+4; size++ {
		s := times("a", size-empty)
		want := api.OK
		if size > maxText {
			want = api.ErrLong
		}
		is(t, putsImage(t, api.Image{Platform: api.Platform{OS: s}, Diffs: []api.Digest{known()}}), want)
		is(t, putsImage(t, api.Image{Platform: api.Platform{Arch: s}, Diffs: []api.Digest{known()}}), want)
		is(t, putsImage(t, api.Image{Platform: api.Platform{OS: s[:100], Arch: s[100:]}, Diffs: []api.Digest{known()}}), want)
	}
	long := times("a", 1<<20)
	is(t, putsIndex(t, []api.Descriptor{{Media: long}}), api.ErrLong)
	is(t, putsIndex(t, slices.Repeat([]api.Descriptor{{Media: long}}, 33)), api.ErrMany)
	is(t, putsIndex(t, []api.Descriptor{{Media: long}, {Size: -1}}), api.ErrArg)
	is(t, putsImage(t, api.Image{Platform: api.Platform{OS: long, Arch: long}}), api.ErrLong)
	is(t, putsImage(t, api.Image{Platform: api.Platform{OS: long}, Diffs: make([]api.Digest, 9)}), api.ErrMany)
	is(t, putsManifest(t, api.Manifest{Config: api.Descriptor{Media: long}}), api.ErrKind)
	// What a manifest does not tell makes it no longer.
	is(t, putsManifest(t, api.Manifest{Config: descriptor(ociConfig, 1, long, long)}), api.OK)
}

// mixedDescriptor is one by chance, that may be but now and then.
func mixedDescriptor(r *numbers, media ...string) api.Descriptor {
	d := descriptor(r.one(media), r.below(1000), r.one([]string{"", "linux", "a", "é\"\\\n"}), r.one([]string{"", "amd64", "a", "\x00😀"}))
	d.Digest[r.below(32)] = byte(r.below(256))
	switch r.below(200) {
	case 0:
		d.Size = []int{-1, biggest, biggest + 1}[r.below(3)]
	case 1:
		d.Media = r.one([]string{"x", "\xff", ""})
	case 2:
		d.Platform.OS = r.one(noUTF8)
	case 3:
		d.Platform.Arch = r.one(noUTF8)
	}
	return d
}

// P13.5, P13.7: what is put by chance, most of which may be.
func TestPutMixed(t *testing.T) {
	r := &numbers{last: 131}
	count := map[string]int{}
	for range 2000 {
		m := api.Manifest{Config: mixedDescriptor(r, ociConfig, oldConfig)}
		for range r.below(11) {
			m.Layers = append(m.Layers, mixedDescriptor(r, ociLayer, oldLayer))
		}
		count[fmt.Sprint("manifest ", said(putsManifest(t, m)))]++
		var l []api.Descriptor
		for range r.below(40) {
			l = append(l, mixedDescriptor(r, ociManifest, oldManifest, ociIndex, "é", ""))
		}
		count[fmt.Sprint("index ", said(putsIndex(t, l)))]++
		i := api.Image{Platform: mixedDescriptor(r, "").Platform}
		for range r.below(11) {
			i.Diffs = append(i.Diffs, mixedDescriptor(r, "").Digest)
		}
		count[fmt.Sprint("image ", said(putsImage(t, i)))]++
	}
	for _, s := range []string{"manifest 0", "manifest 2", "manifest 63", "manifest 72", "index 0", "index 2", "index 63", "image 0", "image 2", "image 63"} {
		if count[s] < 10 {
			t.Errorf("%s: %d times; all: %v", s, count[s], count)
		}
	}
}

// pickOf is what Pick tells by the document's words.
func pickOf(l []api.Descriptor, p api.Platform) (api.Descriptor, api.Errno) {
	at := slices.IndexFunc(l, func(d api.Descriptor) bool {
		return mediaTypes[d.Media] == 1 && d.Platform.OS == p.OS && d.Platform.Arch == p.Arch
	})
	if at < 0 {
		return api.Descriptor{}, api.ErrNoFit
	}
	return l[at], api.OK
}

// picks fails, if Pick tells another one.
func picks(t *testing.T, l []api.Descriptor, p api.Platform, want api.Descriptor, wantE api.Errno) {
	t.Helper()
	if d, e := Pick(l, p); d != want || e != wantE {
		t.Errorf("Pick(%+v, %+v) = %+v, %d; want %+v, %d", l, p, d, said(e), want, said(wantE))
	}
}

// P13.6: none, one, two of which the first is told, one of another kind ahead of it, and one of whose texts but one agrees.
func TestPick(t *testing.T) {
	p := api.Platform{OS: "linux", Arch: "amd64"}
	fit, second := descriptor(ociManifest, 1, "linux", "amd64"), descriptor(oldManifest, 2, "linux", "amd64")
	none := api.Descriptor{}
	picks(t, nil, p, none, api.ErrNoFit)
	picks(t, []api.Descriptor{}, api.Platform{}, none, api.ErrNoFit)
	picks(t, []api.Descriptor{fit}, p, fit, api.OK)
	picks(t, []api.Descriptor{second}, p, second, api.OK)
	picks(t, []api.Descriptor{fit, second}, p, fit, api.OK)
	picks(t, []api.Descriptor{second, fit}, p, second, api.OK)
	for _, media := range []string{"", "x", ociIndex, oldIndex, ociConfig, oldConfig, ociLayer, oldLayer, ociManifest + " "} {
		other := descriptor(media, 3, "linux", "amd64")
		picks(t, []api.Descriptor{other}, p, none, api.ErrNoFit)
		picks(t, []api.Descriptor{other, fit}, p, fit, api.OK)
		picks(t, []api.Descriptor{fit, other}, p, fit, api.OK)
		picks(t, []api.Descriptor{other, second, fit, other}, p, second, api.OK)
	}
	for _, x := range []api.Platform{{}, {OS: "linux"}, {Arch: "amd64"}, {OS: "linux", Arch: "arm64"}, {OS: "windows", Arch: "amd64"}, {OS: "amd64", Arch: "linux"}, {OS: "linuxa", Arch: "md64"}, {OS: "Linux", Arch: "amd64"}, {OS: "linux", Arch: "amd64 "}} {
		other := descriptor(ociManifest, 4, x.OS, x.Arch)
		picks(t, []api.Descriptor{other}, p, none, api.ErrNoFit)
		picks(t, []api.Descriptor{other, fit}, p, fit, api.OK)
		picks(t, []api.Descriptor{fit}, x, none, api.ErrNoFit)
		picks(t, []api.Descriptor{fit, other}, x, other, api.OK)
	}
	// What may not be is told as it is.
	odd := descriptor(ociManifest, -1, "\xff", "\xfe")
	picks(t, []api.Descriptor{fit, odd}, odd.Platform, odd, api.OK)
	picks(t, []api.Descriptor{{Media: ociManifest}}, api.Platform{}, api.Descriptor{Media: ociManifest}, api.OK)
	// Beyond as many as an index has.
	many := append(slices.Repeat([]api.Descriptor{descriptor(ociIndex, 1, "linux", "amd64")}, 100000), fit)
	picks(t, many, p, fit, api.OK)
	picks(t, many[:100000], p, none, api.ErrNoFit)
}

// P13.6: all lists of up to four of these, held against the document's words.
func TestPickEach(t *testing.T) {
	var all []api.Descriptor
	for i, media := range []string{ociManifest, oldManifest, ociIndex} {
		for j, p := range []api.Platform{{}, {OS: "a", Arch: "b"}, {OS: "a"}} {
			all = append(all, descriptor(media, 10*i+j, p.OS, p.Arch))
		}
	}
	var each func(l []api.Descriptor, n int)
	each = func(l []api.Descriptor, n int) {
		for _, p := range []api.Platform{{}, {OS: "a", Arch: "b"}, {OS: "a"}, {Arch: "b"}} {
			want, wantE := pickOf(l, p)
			picks(t, l, p, want, wantE)
		}
		if n == 0 {
			return
		}
		for _, d := range all {
			each(append(l[:len(l):len(l)], d), n-1)
		}
	}
	each(nil, 4)
}

// shuffled is the text of a value with the keys of each object in another order, and others among them, by chance.
func shuffled(r *numbers, x any) string {
	switch x := x.(type) {
	case map[string]any:
		var l [][2]string
		for _, key := range slices.Sorted(func(yield func(string) bool) {
			for key := range x {
				if !yield(key) {
					return
				}
			}
		}) {
			l = append(l, [2]string{key, shuffled(r, x[key])})
		}
		for _, key := range []string{"", "annotations", "MediaType", "Size", "Digest", "OS", "os.version", "urls", "é", "schemaversion"} {
			if r.below(4) == 0 {
				l = append(l, [2]string{key, r.one([]string{"null", "[]", "{}", "-1", `"x"`, `{"size":-1,"mediaType":null}`})})
			}
		}
		return mixedFields(r, l)
	case []any:
		var l []string
		for _, x := range x {
			l = append(l, shuffled(r, x))
		}
		return items(l...)
	case string:
		return quoted(x)
	}
	return fmt.Sprint(x)
}

// P13.7: other keys, and another order of them, make no difference.
func TestKeysMakeNoDifference(t *testing.T) {
	r := &numbers{last: 137}
	for range 400 {
		m := api.Manifest{Config: descriptor(r.one([]string{ociConfig, oldConfig}), r.below(100), "", "")}
		for range r.below(9) {
			m.Layers = append(m.Layers, descriptor(r.one([]string{ociLayer, oldLayer}), r.below(100), "", ""))
		}
		s, _ := PutManifest(m)
		s = shuffled(r, mustValue(t, s))
		if x, e := Manifest(s); e != api.OK || !sameManifest(x, m) {
			t.Fatalf("Manifest(%s) = %+v, %d; want %+v", s, x, said(e), m)
		}
		var l []api.Descriptor
		for range r.below(20) {
			l = append(l, descriptor(r.one([]string{ociManifest, "x", ""}), r.below(100), r.one([]string{"", "a", "é"}), r.one([]string{"", "b"})))
		}
		s, _ = PutIndex(l)
		s = shuffled(r, mustValue(t, s))
		if x, e := Index(s); e != api.OK || !slices.Equal(x, l) {
			t.Fatalf("Index(%s) = %+v, %d; want %+v", s, x, said(e), l)
		}
		i := api.Image{Platform: api.Platform{OS: r.one([]string{"", "a"}), Arch: r.one([]string{"", "b\n"})}, Diffs: slices.Repeat([]api.Digest{known(), {1}}, r.below(5))}
		s, _ = PutImage(i)
		s = shuffled(r, mustValue(t, s))
		if x, e := Image(s); e != api.OK || !sameImage(x, i) {
			t.Fatalf("Image(%s) = %+v, %d; want %+v", s, x, said(e), i)
		}
	}
}

// P13.7: all orders of the keys of a manifest, an index, an image and their parts.
func TestOrdersOfKeys(t *testing.T) {
	orders([]string{"mediaType", quoted(ociLayer), "digest", quoted(digest), "size", "7", "platform", `{"os":"a","architecture":"b"}`}, func(one string) {
		tells(t, asIndex, index("2", "", items(one)), api.OK)
		orders([]string{"schemaVersion", "2", "mediaType", quoted(oldManifest), "config", good(oldConfig), "layers", items(one)}, func(s string) {
			tells(t, asManifest, s, api.OK)
			if m, e := Manifest(s); e != api.OK || m.Config != descriptor(oldConfig, 7, "", "") || !slices.Equal(m.Layers, []api.Descriptor{descriptor(ociLayer, 7, "", "")}) {
				t.Errorf("Manifest(%s) = %+v, %d", s, m, said(e))
			}
		})
		orders([]string{"schemaVersion", "2", "mediaType", quoted(oldIndex), "manifests", items(one)}, func(s string) {
			if l, e := Index(s); e != api.OK || !slices.Equal(l, []api.Descriptor{descriptor(ociLayer, 7, "a", "b")}) {
				t.Errorf("Index(%s) = %+v, %d", s, l, said(e))
			}
		})
	})
	orders([]string{"type", `"layers"`, "diff_ids", items(quoted(digest)), "x", "null"}, func(root string) {
		orders([]string{"os", `"a"`, "architecture", `"b"`, "rootfs", root, "history", "[]"}, func(s string) {
			if i, e := Image(s); e != api.OK || !sameImage(i, api.Image{Platform: api.Platform{OS: "a", Arch: "b"}, Diffs: []api.Digest{known()}}) {
				t.Errorf("Image(%s) = %+v, %d", s, i, said(e))
			}
		})
	})
}

// orders hands on the texts of an object with its fields in each order.
func orders(l []string, f func(string)) {
	var next func(done, rest []string)
	next = func(done, rest []string) {
		if len(rest) == 0 {
			f(fields(done...))
			return
		}
		for i := 0; i < len(rest); i += 2 {
			left := slices.Concat(rest[:i], rest[i+2:])
			next(slices.Concat(done, rest[i:i+2]), left)
		}
	}
	next(nil, l)
}

// P13.2 to P13.4: a key twice is an error of the text; one by escapes is that key.
func TestKeysTwice(t *testing.T) {
	for _, x := range texts {
		for _, key := range []string{"schemaVersion", "mediaType", "config", "layers", "manifests", "digest", "size", "os", "architecture", "platform", "rootfs", "type", "diff_ids"} {
			field := quoted(key) + ":"
			at := strings.Index(x.s, field)
			if at < 0 {
				continue
			}
			tells(t, x.as, x.s[:at]+field+"1,"+x.s[at:], api.ErrForm)
			escaped := fmt.Sprintf(`"\u%04x%s`, key[0], field[2:])
			tells(t, x.as, x.s[:at]+escaped+"1,"+x.s[at:], api.ErrForm)
			tells(t, x.as, strings.ReplaceAll(x.s, field, escaped), api.OK)
			// One that is not known may stand beside.
			tells(t, x.as, x.s[:at]+quoted(key+"2")+":1,"+x.s[at:], api.OK)
			tells(t, x.as, x.s[:at]+quoted(strings.ToUpper(key))+":1,"+x.s[at:], api.OK)
		}
	}
}

// R2: what is asked ahead changes no answer.
func TestAnswersStay(t *testing.T) {
	for range 3 {
		for _, x := range texts {
			tells(t, x.as, x.s, api.OK)
			tells(t, x.as, x.s[1:], api.ErrForm)
			tells(t, x.as, times(" ", maxText)+x.s, api.ErrLong)
		}
	}
}

// within tells whether a text stands in the memory of another one.
func within(s, of string) bool {
	if s == "" {
		return false
	}
	at, from := uintptr(unsafe.Pointer(unsafe.StringData(s))), uintptr(unsafe.Pointer(unsafe.StringData(of)))
	return at >= from && at < from+uintptr(len(of))
}

// textsOf are the texts that descriptors have.
func textsOf(l ...api.Descriptor) (all []string) {
	for _, d := range l {
		all = append(all, d.Media, d.Platform.OS, d.Platform.Arch)
	}
	return all
}

// Rules: what is told shares nothing with what was handed in, and what was handed in stays as it was.
func TestNothingIsShared(t *testing.T) {
	m, _ := Manifest(texts[0].s)
	l, _ := Index(texts[1].s)
	i, _ := Image(texts[2].s)
	for _, s := range slices.Concat(textsOf(m.Config), textsOf(m.Layers...), textsOf(l...), []string{i.Platform.OS, i.Platform.Arch}) {
		for _, x := range texts {
			if within(s, x.s) {
				t.Errorf("%q is a piece of %s", s, x.s)
			}
		}
	}
	d := descriptor(times(ociManifest, 1), 1, times("linux", 2), times("amd64", 2))
	list := []api.Descriptor{d, d}
	told, _ := Pick(list, d.Platform)
	for _, s := range textsOf(told) {
		for _, x := range textsOf(list...) {
			if within(s, x) {
				t.Errorf("%q is what was handed in", s)
			}
		}
	}
	s, _ := PutIndex(list)
	for _, x := range textsOf(list...) {
		if within(s, x) {
			t.Errorf("%q is what was handed in", x)
		}
	}
	if list[0] != d || list[1] != d {
		t.Error("Pick or PutIndex changed the list")
	}
	layers := []api.Descriptor{descriptor(ociLayer, 1, "a", "b"), descriptor(ociLayer, 2, "c", "d"), {Size: -1}}
	was := slices.Clone(layers)
	PutManifest(api.Manifest{Config: descriptor(ociConfig, 1, "a", "b"), Layers: layers[:2]})
	if !slices.Equal(layers, was) {
		t.Error("PutManifest changed the layers, or what is behind them")
	}
}

// Rules: two answers share no list.
func TestAnswersAreNew(t *testing.T) {
	m, _ := Manifest(texts[0].s)
	was := plain(m)
	l, _ := Index(texts[1].s)
	i, _ := Image(texts[2].s)
	m.Layers[0], l[0], i.Diffs[0] = api.Descriptor{}, api.Descriptor{}, api.Digest{}
	for _, x := range texts {
		tells(t, x.as, x.s, api.OK)
	}
	if again, _ := Manifest(texts[0].s); !sameManifest(again, was) {
		t.Errorf("%+v; want %+v", again, was)
	}
}
