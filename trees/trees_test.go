package trees

import (
	"encoding/binary"
	"fmt"
	"math"
	"path"
	"regexp"
	"slices"
	"sort"
	"strings"
	"testing"
	"unsafe"

	"lighter/api"
)

const (
	mostNodes  = 400
	maxPath    = 200
	maxText    = 65536
	maxEntries = 200
	mostPut    = 65000
)

// Forms of the document's words of whiteouts.
var (
	whiteoutForm = regexp.MustCompile(`(?s)\A\.wh\.(.+)\z`)
	staysForm    = regexp.MustCompile(`(?s)\A(\.|\.\.|\.wh\..*)\z`)
)

// cleaned is a path without what is not needed, as the library goes by the document's words.
func cleaned(p string) (string, api.Errno) {
	left := path.Clean(strings.TrimLeft(p, "/"))
	if strings.IndexByte(p, 0) >= 0 || left == ".." || strings.HasPrefix(left, "../") {
		return "", api.ErrPath
	}
	if left == "." {
		left = ""
	}
	if len(left) > maxPath {
		return "", api.ErrLong
	}
	return left, api.OK
}

// split is the directory of a path, and its last part.
func split(p string) (dir, base string) {
	dir, base = path.Split(p)
	return strings.TrimSuffix(dir, "/"), base
}

// allowed tells whether a node may be, by the document's words.
func allowed(n Node) bool {
	clean, e := cleaned(n.Path)
	if e != api.OK || clean != n.Path || len(n.Path) < 1 || n.Mode < 0 || n.Mode > 4095 {
		return false
	}
	size := len(n.Data)
	return n.Kind == api.TaFile && size <= maxText || n.Kind == api.TaDir && size == 0 || n.Kind == api.TaSymlink && size >= 1 && size <= maxPath
}

// checkedAs is what Check tells by the document's words.
func checkedAs(l []Node) api.Errno {
	if len(l) > mostNodes {
		return api.ErrMany
	}
	dirs := map[string]bool{"": true}
	for _, n := range l {
		if n.Kind == api.TaDir {
			dirs[n.Path] = true
		}
	}
	var names []string
	for _, n := range l {
		if dir, _ := split(n.Path); !allowed(n) || !dirs[dir] || slices.Contains(names, n.Path) {
			return api.ErrArg
		}
		names = append(names, n.Path)
	}
	if !sort.StringsAreSorted(names) {
		return api.ErrArg
	}
	return api.OK
}

// whiteoutOf is what a clean path takes away: all in top, and perhaps top itself.
func whiteoutOf(p string) (top string, itself, is bool) {
	dir, base := split(p)
	if base == ".wh..wh..opq" {
		return dir, false, true
	}
	f := whiteoutForm.FindStringSubmatch(base)
	if f == nil || staysForm.MatchString(f[1]) {
		return "", false, false
	}
	return path.Join(dir, f[1]), true, true
}

// spot is a node, and whether it is the layer's own.
type spot struct {
	Node
	own bool
}

// model is a tree that a layer is laid over, in no order.
type model struct{ l []spot }

// find is the place of a path's node; -1: there is none.
func (m *model) find(p string) int {
	return slices.IndexFunc(m.l, func(s spot) bool { return s.Path == p })
}

// below tells whether a path is in a directory.
func below(dir, p string) bool { return dir == "" || strings.HasPrefix(p, dir+"/") }

// holds tells whether a node has one in it that is the layer's own.
func (m *model) holds(p string) bool {
	return slices.ContainsFunc(m.l, func(s spot) bool { return s.own && below(p, s.Path) })
}

// whiteout takes a node away, if it is told, and all in it.
func (m *model) whiteout(top string, itself bool) {
	var stay []spot
	for _, s := range m.l {
		meant := below(top, s.Path) || itself && s.Path == top
		if !meant || s.own || m.holds(s.Path) {
			stay = append(stay, s)
		}
	}
	m.l = stay
}

// dirsOf lays all directories that a path is in.
func (m *model) dirsOf(p string) api.Errno {
	parts := strings.Split(p, "/")
	for n := 1; n < len(parts); n++ {
		dir := strings.Join(parts[:n], "/")
		at := m.find(dir)
		if at < 0 {
			m.l = append(m.l, spot{Node{Path: dir, Kind: api.TaDir, Mode: 493}, true})
		} else if m.l[at].Kind != api.TaDir {
			return api.ErrPath
		}
	}
	return api.OK
}

// node is what an entry lays.
func (m *model) node(p string, x api.TarEntry) (Node, api.Errno) {
	n := map[int]Node{
		api.TaFile:    {p, api.TaFile, x.Mode, x.Data},
		api.TaDir:     {p, api.TaDir, x.Mode, ""},
		api.TaSymlink: {p, api.TaSymlink, x.Mode, x.To},
	}[x.Kind]
	if x.Kind == api.TaLink {
		to, e := cleaned(x.To)
		if e != api.OK {
			return Node{}, e
		}
		at := m.find(to)
		if at < 0 || m.l[at].Kind != api.TaFile {
			return Node{}, api.ErrNone
		}
		n = m.l[at].Node
		n.Path = p
	}
	if !allowed(n) {
		return Node{}, api.ErrArg
	}
	return n, api.OK
}

// lay does what an entry says, by the document's words.
func (m *model) lay(x api.TarEntry) api.Errno {
	p, e := cleaned(x.Name)
	if e != api.OK {
		return e
	}
	if p == "" && x.Kind == api.TaDir {
		return api.OK
	}
	if p == "" {
		return api.ErrPath
	}
	if top, itself, is := whiteoutOf(p); is {
		m.whiteout(top, itself)
		return api.OK
	}
	if e := m.dirsOf(p); e != api.OK {
		return e
	}
	n, e := m.node(p, x)
	if e != api.OK {
		return e
	}
	if at := m.find(p); at >= 0 && !(m.l[at].Kind == api.TaDir && n.Kind == api.TaDir) {
		m.l = slices.DeleteFunc(m.l, func(s spot) bool { return below(p, s.Path) })
	}
	m.l = append(slices.DeleteFunc(m.l, func(s spot) bool { return s.Path == p }), spot{n, true})
	return api.OK
}

// appliedAs is what Apply tells by the document's words.
func appliedAs(l []Node, layer []api.TarEntry) ([]Node, api.Errno) {
	if e := checkedAs(l); e != api.OK {
		return nil, e
	}
	if len(layer) > maxEntries {
		return nil, api.ErrMany
	}
	var m model
	for _, n := range l {
		m.l = append(m.l, spot{n, false})
	}
	for _, x := range layer {
		if e := m.lay(x); e != api.OK {
			return nil, e
		}
	}
	if len(m.l) > mostNodes {
		return nil, api.ErrMany
	}
	var out []Node
	for _, s := range m.l {
		out = append(out, s.Node)
	}
	slices.SortFunc(out, func(a, b Node) int { return strings.Compare(a.Path, b.Path) })
	return out, api.OK
}

// foldedAs is what Fold tells by the document's words.
func foldedAs(layers [][]api.TarEntry) (out []Node, e api.Errno) {
	for _, layer := range layers {
		if out, e = appliedAs(out, layer); e != api.OK {
			return nil, e
		}
	}
	return out, api.OK
}

// bytesOf is nodes' bytes by the document's words, whatever they are.
func bytesOf(l ...Node) string {
	b := binary.LittleEndian.AppendUint16(nil, uint16(len(l)))
	for _, n := range l {
		b = append(b, byte(n.Kind))
		b = binary.LittleEndian.AppendUint16(b, uint16(n.Mode))
		b = append(append(b, byte(len(n.Path))), n.Path...)
		b = append(binary.LittleEndian.AppendUint32(b, uint32(len(n.Data))), n.Data...)
	}
	return string(b)
}

// puttedAs is what Put tells by the document's words.
func puttedAs(l []Node) (string, api.Errno) {
	if e := checkedAs(l); e != api.OK {
		return "", e
	}
	if s := bytesOf(l...); len(s) <= mostPut {
		return s, api.OK
	}
	return "", api.ErrLong
}

func times(s string, n int) string { return strings.Repeat(s, n) }

// deep are n parts of size bytes each, with a / between.
func deep(n, size int) string { return strings.TrimSuffix(times(times("p", size)+"/", n), "/") }

func file(name, data string) Node  { return Node{name, api.TaFile, 0o644, data} }
func dir(name string) Node         { return Node{name, api.TaDir, 0o755, ""} }
func symlink(name, to string) Node { return Node{name, api.TaSymlink, 0o777, to} }
func tree(l ...Node) []Node        { return l }
func rising(l ...Node) []Node {
	slices.SortFunc(l, func(a, b Node) int { return strings.Compare(a.Path, b.Path) })
	return l
}
func layer(l ...entry) []entry      { return l }
func layers(l ...[]entry) [][]entry { return l }

type entry = api.TarEntry

func xFile(name, data string) entry {
	return entry{Kind: api.TaFile, Name: name, Mode: 0o644, Data: data}
}
func xDir(name string, mode int) entry {
	return entry{Kind: api.TaDir, Name: name, Mode: mode}
}
func xSymlink(name, to string) entry {
	return entry{Kind: api.TaSymlink, Name: name, Mode: 0o777, To: to}
}
func xLink(name, to string) entry { return entry{Kind: api.TaLink, Name: name, Mode: 0o111, To: to} }
func gone(name string) entry      { return entry{Kind: api.TaFile, Name: name} }

// many are n files in the root.
func many(n int) []Node {
	var l []Node
	for i := range n {
		l = append(l, file(fmt.Sprintf("f%03d", i), "x"))
	}
	return l
}

// pathsOf are nodes' paths, in order.
func pathsOf(l []Node) string {
	var names []string
	for _, n := range l {
		names = append(names, n.Path)
	}
	return strings.Join(names, " ")
}

// cut is a text's front, to be told.
func cut(s string) string {
	const most = 60
	if len(s) > most {
		return fmt.Sprintf("%q .. (%d bytes)", s[:most], len(s))
	}
	return fmt.Sprintf("%q", s)
}

// shown is nodes, to be told.
func shown(l []Node) string {
	var b strings.Builder
	for i, n := range l {
		if i == 8 {
			return fmt.Sprintf("%s .. (%d)", b.String(), len(l))
		}
		fmt.Fprintf(&b, "{%s %d %o %s}", cut(n.Path), n.Kind, n.Mode, cut(n.Data))
	}
	return b.String()
}

// told is entries, to be told.
func told(l []entry) string {
	var b strings.Builder
	for i, x := range l {
		if i == 8 {
			return fmt.Sprintf("%s .. (%d)", b.String(), len(l))
		}
		fmt.Fprintf(&b, "{%d %s %s %o %s}", x.Kind, cut(x.Name), cut(x.To), x.Mode, cut(x.Data))
	}
	return b.String()
}

// checks fails, if Check doesn't tell that of nodes, or if the document's words don't.
func checks(t *testing.T, no api.Errno, l ...Node) {
	t.Helper()
	if e, as := Check(l), checkedAs(l); e != no || as != no {
		t.Errorf("Check(%s) = %d; want %d (as the words say %d)", shown(l), int(e), int(no), int(as))
	}
}

// asWords fails, if Apply doesn't tell what the document's words say, or changes what is handed in.
func asWords(t *testing.T, l []Node, layer []entry) ([]Node, api.Errno) {
	t.Helper()
	nodes, entries := slices.Clone(l), slices.Clone(layer)
	want, no := appliedAs(l, layer)
	out, e := Apply(l, layer)
	if e != no || !slices.Equal(out, want) || e != api.OK && out != nil {
		t.Errorf("Apply(%s, %s) = %s, %d; want %s, %d", shown(l), told(layer), shown(out), int(e), shown(want), int(no))
	}
	if !slices.Equal(l, nodes) || !slices.Equal(layer, entries) {
		t.Errorf("Apply(%s, %s) changed them", shown(nodes), told(entries))
	}
	return out, e
}

// applies fails, if Apply doesn't tell that tree.
func applies(t *testing.T, l []Node, layer []entry, want ...Node) {
	t.Helper()
	if out, e := asWords(t, l, layer); e != api.OK || !slices.Equal(out, want) {
		t.Errorf("Apply(%s, %s) = %s, %d; want %s", shown(l), told(layer), shown(out), int(e), shown(want))
	}
}

// leaves fails, if Apply doesn't tell a tree of these paths, in whichever order they are named.
func leaves(t *testing.T, l []Node, layer []entry, names string) {
	t.Helper()
	each := strings.Fields(names)
	slices.Sort(each)
	want := strings.Join(each, " ")
	if out, e := asWords(t, l, layer); e != api.OK || pathsOf(out) != want {
		t.Errorf("Apply(%s, %s) = %s, %d; want %s", shown(l), told(layer), pathsOf(out), int(e), want)
	}
}

// refuses fails, if Apply doesn't tell that error.
func refuses(t *testing.T, no api.Errno, l []Node, layer ...entry) {
	t.Helper()
	if out, e := asWords(t, l, layer); e != no || out != nil {
		t.Errorf("Apply(%s, %s) = %s, %d; want %d", shown(l), told(layer), shown(out), int(e), int(no))
	}
}

// folds fails, if Fold doesn't tell what the document's words say, or what Apply tells in turn.
func folds(t *testing.T, layers [][]entry) ([]Node, api.Errno) {
	t.Helper()
	want, no := foldedAs(layers)
	var l []Node
	e := api.OK
	for _, layer := range layers {
		if l, e = Apply(l, layer); e != api.OK {
			break
		}
	}
	out, f := Fold(layers)
	if f != no || f != e || !slices.Equal(out, want) || !slices.Equal(out, l) || f != api.OK && out != nil {
		t.Errorf("Fold of %d layers = %s, %d; want %s, %d; Apply in turn: %s, %d", len(layers), shown(out), int(f), shown(want), int(no), shown(l), int(e))
	}
	return out, f
}

// puts fails, if Put doesn't tell what the document's words say, or if what it tells is not got as it was.
func puts(t *testing.T, no api.Errno, l ...Node) string {
	t.Helper()
	was := slices.Clone(l)
	want, as := puttedAs(l)
	s, e := Put(l)
	if s != want || e != no || as != no || !slices.Equal(l, was) {
		t.Errorf("Put(%s) = %s, %d; want %s, %d", shown(l), cut(s), int(e), cut(want), int(no))
	}
	if e == api.OK {
		gets(t, s, l...)
	}
	return s
}

// gets fails, if Get doesn't tell that tree, or if that is put otherwise.
func gets(t *testing.T, s string, want ...Node) {
	t.Helper()
	l, e := Get(s)
	if e != api.OK || !Same(l, want) || !slices.Equal(l, want) {
		t.Errorf("Get(%s) = %s, %d; want %s", cut(s), shown(l), int(e), shown(want))
	}
	if again, e := Put(l); e != api.OK || again != s {
		t.Errorf("Put(%s) = %s, %d; it was got of %s", shown(l), cut(again), int(e), cut(s))
	}
}

// getsNone fails, if Get tells a tree.
func getsNone(t *testing.T, s string) {
	t.Helper()
	if l, e := Get(s); e != api.ErrForm || l != nil {
		t.Errorf("Get(%s) = %s, %d; want %d", cut(s), shown(l), int(e), int(api.ErrForm))
	}
}

// numbers are mixed ones.
type numbers struct{ last uint32 }

func (r *numbers) below(n int) int {
	r.last = r.last*1664525 + 1013904223
	return int(r.last>>8) % n
}

func (r *numbers) one(l ...string) string { return l[r.below(len(l))] }

// name is a path of up to three parts, or a little else.
func (r *numbers) name() string {
	var l []string
	for range 1 + r.below(3) {
		l = append(l, r.one("a", "b", "c", "a-", "a0", "d"))
	}
	switch r.below(60) {
	case 0:
		l = append(l, "..", ".")
	case 1:
		l = append(l, "", "x")
	}
	return strings.Join(l, "/")
}

// entry is one that mostly is laid.
func (r *numbers) entry() entry {
	x := entry{Kind: 1 + r.below(4), Name: r.name(), Mode: r.below(4096)}
	switch {
	case r.below(6) == 0:
		dir, base := split(r.name())
		x.Name = path.Join(dir, ".wh."+base)
	case r.below(12) == 0:
		x.Name = path.Join(r.one("", "a", "b", "a/b", "a/b/c", "a-"), ".wh..wh..opq")
	case x.Kind == api.TaFile:
		x.Data = r.one("", "x", "yy", times("z", 100))
	case x.Kind == api.TaLink:
		x.To = r.one("a", "b", "c", "a/b", "a/c", "b/a", "/d/../c/")
	case x.Kind == api.TaSymlink:
		x.To = r.one("a", "../..", "/", "none")
	}
	return x
}

// sometimes is an entry of that kind, or, now and then, one that may not be.
func (r *numbers) sometimes() entry {
	x := r.entry()
	switch r.below(150) {
	case 0:
		x.Kind = r.below(9) - 2
	case 1:
		x.Mode = []int{-1, 4096}[r.below(2)]
	case 2:
		x.Name = r.one("", "..", "/", "a/../..", "a\x00", deep(101, 1), times("n", 201))
	case 3:
		x.To = r.one("", "..", times("t", 200), times("t", 201), "\x00")
	}
	return x
}

// layer is up to most entries.
func (r *numbers) layer(most int, one func() entry) []entry {
	var l []entry
	for range r.below(most + 1) {
		l = append(l, one())
	}
	return l
}

// tree is one that layers come to.
func (r *numbers) tree() []Node {
	for {
		if l, e := appliedAs(nil, r.layer(12, r.entry)); e == api.OK {
			return l
		}
	}
}

// P16.2: the document's examples.
func TestExamples(t *testing.T) {
	a, b, c, d, e := dir("a"), file("a/b", "1"), symlink("c", "../x"), file("a/d", "4"), dir("a/c")
	applies(t, nil, layer(xFile("a/b", "1")), a, b)
	applies(t, tree(a, b), layer(gone("a/.wh.b"), xSymlink("c", "../x")), a, c)
	applies(t, tree(a, c), layer(xFile("a", "3")), file("a", "3"), c)
	refuses(t, api.ErrPath, tree(a, c), xFile("../x", "5"))
	l := tree(a, b, e, file("a/c/e", "6"))
	applies(t, l, layer(gone("a/.wh..wh..opq"), xFile("a/d", "4")), a, d)
	applies(t, l, layer(xFile("a/d", "4"), gone("a/.wh..wh..opq")), a, d)
}

// P16.1: a node's path: nothing, clean ones, others, and all sizes around the greatest one.
func TestCheckPaths(t *testing.T) {
	for _, p := range []string{"a", "...", ".a", "a b", "ä", "\xff\xfe", "\n", "-", ".wh.x", ".wh..wh..opq", "..a", times("a", 199), times("a", 200)} {
		checks(t, api.OK, file(p, ""))
	}
	for _, p := range []string{"", ".", "..", "/", "/a", "a/", "a//b", "./a", "a/.", "a/..", "a/../b", "../a", "\x00", "a\x00", "\x00a", times("a", 201), times("a", 5000), times("/", 200)} {
		checks(t, api.ErrArg, file(p, ""))
		checks(t, api.ErrArg, dir(p))
		checks(t, api.ErrArg, symlink(p, "x"))
		checks(t, api.ErrArg, dir("a"), file("a/"+p+"/", ""))
	}
	for _, base := range []string{"", ".", "..", "b/", "/b", "b//c", "./b", "\x00", times("b", 199), times("b", 200)} {
		checks(t, api.ErrArg, dir("a"), file("a/"+base, ""))
	}
	checks(t, api.OK, dir("a"), file("a/"+times("b", 198), ""))
	for b := range 256 {
		c := string([]byte{byte(b)})
		no := api.OK
		if c == "/" || c == "." || c == "\x00" {
			no = api.ErrArg
		}
		checks(t, no, file(c, ""))
	}
}

// P16.1: a node's mode is from 0 to 4095, of each kind.
func TestCheckModes(t *testing.T) {
	for _, mode := range []int{math.MinInt, -4096, -2, -1, 0, 1, 493, 2048, 4094, 4095, 4096, 4097, 65535, 65536, 1 << 32, math.MaxInt} {
		no := api.OK
		if mode < 0 || mode > 4095 {
			no = api.ErrArg
		}
		checks(t, no, Node{"a", api.TaFile, mode, "x"})
		checks(t, no, Node{"a", api.TaDir, mode, ""})
		checks(t, no, Node{"a", api.TaSymlink, mode, "x"})
	}
}

// P16.1: a node's kind, with data of all sizes that matter.
func TestCheckKindsAndData(t *testing.T) {
	for _, size := range []int{0, 1, 2, 199, 200, 201, 4096, 65535, 65536, 65537, 100000} {
		for _, kind := range []int{math.MinInt, -1, 0, api.TaFile, api.TaDir, api.TaLink, api.TaSymlink, 5, 6, 256 + api.TaFile, math.MaxInt} {
			no := api.ErrArg
			switch kind {
			case api.TaFile:
				if size <= 65536 {
					no = api.OK
				}
			case api.TaDir:
				if size == 0 {
					no = api.OK
				}
			case api.TaSymlink:
				if size >= 1 && size <= 200 {
					no = api.OK
				}
			}
			checks(t, no, Node{"a", kind, 0, times("x", size)})
		}
	}
	for _, data := range []string{"\x00", "\xff", "..", "/", "../../x", "a//b"} {
		checks(t, api.OK, file("a", data), symlink("b", data))
	}
}

// P16.1: nodes rise by their paths, byte by byte, and none is there twice.
func TestCheckOrder(t *testing.T) {
	checks(t, api.OK)
	checks(t, api.OK, file("a", ""), file("b", ""))
	checks(t, api.ErrArg, file("b", ""), file("a", ""))
	checks(t, api.ErrArg, file("a", ""), file("a", ""))
	checks(t, api.ErrArg, dir("a"), dir("a"))
	checks(t, api.ErrArg, file("a", ""), file("b", ""), file("b", "x"))
	checks(t, api.ErrArg, file("a", ""), file("b", ""), file("a", ""))
	checks(t, api.OK, file("A", ""), file("a", ""), file("ä", ""), file("\xff", ""))
	checks(t, api.ErrArg, file("a", ""), file("A", ""))
	checks(t, api.ErrArg, file("\xff", ""), file("ä", ""))
	checks(t, api.OK, file("a", ""), file("a\n", ""), file("aa", ""), file("ab", ""))
	// A slash is greater than these, and less than others.
	checks(t, api.OK, dir("a"), file("a b", ""), dir("a-"), file("a-/b", ""), file("a.", ""), file("a/b", ""), file("a0", ""))
	checks(t, api.ErrArg, dir("a"), file("a/b", ""), file("a-", ""))
	checks(t, api.ErrArg, dir("a"), file("a0", ""), file("a/b", ""))
	checks(t, api.ErrArg, dir("a"), file("a/c", ""), file("a/b", ""))
	checks(t, api.ErrArg, file("a/b", ""), dir("a"))
}

// P16.1: each node is in the root, or in a directory of the tree.
func TestCheckDirectories(t *testing.T) {
	checks(t, api.OK, dir("a"), dir("a/b"), dir("a/b/c"), file("a/b/c/d", ""))
	checks(t, api.ErrArg, file("a/b", ""))
	checks(t, api.ErrArg, file("a", ""), file("a/b", ""))
	checks(t, api.ErrArg, symlink("a", "b"), file("a/b", ""))
	checks(t, api.ErrArg, dir("a"), file("a/b/c", ""))
	checks(t, api.ErrArg, dir("a"), file("a/b", ""), file("a/b/c", ""))
	checks(t, api.ErrArg, dir("a"), dir("b"), file("c/d", ""))
	checks(t, api.ErrArg, dir("a"), file("a-/b", ""))
	checks(t, api.ErrArg, dir("ab"), file("ab/c/d", ""))
	checks(t, api.ErrArg, dir("a"), dir("a/bc"), file("a/b/c", ""))
	checks(t, api.OK, dir("a"), symlink("a-", "x"), dir("a."), file("a./x", ""), file("a/b", ""))
	var down []Node
	for n := 1; n <= 100; n++ {
		down = append(down, dir(deep(n, 1)))
	}
	checks(t, api.OK, down...)
	for n := range 99 {
		checks(t, api.ErrArg, slices.Delete(slices.Clone(down), n, n+1)...)
	}
}

// P16.1: at most 400 nodes, and that is told ahead of what they are.
func TestCheckMany(t *testing.T) {
	for _, n := range []int{0, 1, 2, 199, 399, 400} {
		checks(t, api.OK, many(n)...)
	}
	for _, n := range []int{401, 402, 1000} {
		checks(t, api.ErrMany, many(n)...)
		checks(t, api.ErrMany, make([]Node, n)...)
	}
	checks(t, api.ErrArg, make([]Node, 400)...)
	checks(t, api.ErrArg, append(many(399), file("a", ""))...)
	l := many(400)
	for i := range l {
		bad := slices.Clone(l)
		bad[i].Mode = -1
		checks(t, api.ErrArg, bad...)
		if i > 0 {
			bad[i] = bad[i-1]
			checks(t, api.ErrArg, bad...)
		}
	}
	if Most != mostNodes {
		t.Error(Most)
	}
}

// someNodes are nodes of a few paths, of each kind, and some that may not be.
func someNodes() []Node {
	var l []Node
	for _, p := range []string{"a", "a-", "a/b", "a/b/c", "b"} {
		l = append(l, file(p, "1"), dir(p), symlink(p, "x"))
	}
	return append(l, file("", ""), file("a/", ""), Node{"a", api.TaLink, 0, "b"}, Node{"b", api.TaDir, 0, "x"})
}

// P16.1: all lists of up to four of some nodes, held against the document's words.
func TestCheckEach(t *testing.T) {
	some := someNodes()
	trees := 0
	var more func(l []Node)
	more = func(l []Node) {
		no := checkedAs(l)
		if e := Check(l); e != no {
			t.Errorf("Check(%s) = %d; want %d", shown(l), int(e), int(no))
		}
		if no == api.OK {
			trees++
		}
		if len(l) < 4 {
			for _, n := range some {
				more(append(l, n))
			}
		}
	}
	more(nil)
	if trees < 100 {
		t.Errorf("only %d are trees", trees)
	}
}

// P16.1: Find tells the first node of a path, whatever the nodes are.
func TestFind(t *testing.T) {
	first, second := file("a", "1"), symlink("a", "2")
	l := tree(dir("b"), first, second, file("b/c", "3"), Node{"", 7, -1, "x"}, Node{"/x/", 0, 9999, ""})
	for _, x := range []struct {
		path string
		want Node
	}{{"a", first}, {"b", dir("b")}, {"b/c", file("b/c", "3")}, {"", l[4]}, {"/x/", l[5]}} {
		if n, ok := Find(l, x.path); !ok || n != x.want {
			t.Errorf("Find(%q) = %v, %t; want %v", x.path, n, ok, x.want)
		}
	}
	for _, p := range []string{"c", "b/", "/a", "./a", "b/d", "A", "aa", "x", "/x", times("a", 1000), "a\x00"} {
		if n, ok := Find(l, p); ok || n != (Node{}) {
			t.Errorf("Find(%q) = %v, %t", p, n, ok)
		}
	}
	for _, p := range []string{"", "a"} {
		if n, ok := Find(nil, p); ok || n != (Node{}) {
			t.Errorf("Find(%q) in none = %v, %t", p, n, ok)
		}
	}
	for i, n := range many(500) {
		if got, ok := Find(many(500), n.Path); !ok || got != n {
			t.Errorf("Find of node %d = %v, %t", i, got, ok)
		}
	}
}

// P16.1: Bytes counts those of files alone, whatever the nodes are.
func TestBytes(t *testing.T) {
	for _, x := range []struct {
		l    []Node
		want int
	}{
		{nil, 0},
		{tree(), 0},
		{tree(file("a", "")), 0},
		{tree(file("a", "xyz")), 3},
		{tree(dir("a"), file("a/b", "xy"), symlink("c", "../a/b"), file("d", "\x00ä")), 5},
		{tree(symlink("c", "x")), 0},
		{tree(Node{"a", api.TaDir, 0, "xyz"}, Node{"a", api.TaLink, 0, "xyz"}, Node{"", 0, 0, "x"}, Node{"", 5, 0, "x"}, Node{"", -1, 0, "x"}), 0},
		{tree(Node{"", api.TaFile, -1, "xyz"}, Node{"", api.TaFile, -1, "xyz"}), 6},
		{tree(file("a", times("x", 100000))), 100000},
		{many(1000), 1000},
	} {
		if n := Bytes(x.l); n != x.want {
			t.Errorf("Bytes(%s) = %d; want %d", shown(x.l), n, x.want)
		}
	}
}

// P16.1: Same holds all of all nodes against each other, in order.
func TestSame(t *testing.T) {
	base := tree(dir("a"), file("a/b", "x"), symlink("c", "y"))
	if !Same(base, slices.Clone(base)) || !Same(nil, nil) || !Same(nil, tree()) || !Same(tree(), nil) {
		t.Error("the same ones are others")
	}
	differ := func(l []Node) {
		t.Helper()
		if Same(base, l) || Same(l, base) {
			t.Errorf("Same(%s, %s)", shown(base), shown(l))
		}
	}
	for i := range base {
		for _, change := range []func(*Node){
			func(n *Node) { n.Path += "x" }, func(n *Node) { n.Path = "" }, func(n *Node) { n.Kind++ }, func(n *Node) { n.Mode++ }, func(n *Node) { n.Mode = -n.Mode }, func(n *Node) { n.Data += "\x00" }, func(n *Node) { n.Data, n.Path = n.Path, n.Data },
		} {
			l := slices.Clone(base)
			change(&l[i])
			differ(l)
			if !Same(l, slices.Clone(l)) {
				t.Errorf("Same(%s, itself) is false", shown(l))
			}
		}
		differ(base[:i])
		differ(base[i+1:])
		differ(slices.Delete(slices.Clone(base), i, i+1))
	}
	differ(append(slices.Clone(base), Node{}))
	differ(tree(base[1], base[0], base[2]))
	differ(tree(base[0], base[2], base[1]))
}

// P16.2: Check's error stands ahead of all that the entries say.
func TestApplyOverWhatIsNoTree(t *testing.T) {
	bad := layer(xFile("..", ""))
	for _, l := range [][]Node{tree(file("a/b", "")), tree(file("b", ""), file("a", "")), tree(Node{}), tree(Node{"a", api.TaLink, 0, "x"})} {
		refuses(t, api.ErrArg, l)
		refuses(t, api.ErrArg, l, bad...)
		refuses(t, api.ErrArg, l, make([]entry, 201)...)
	}
	refuses(t, api.ErrMany, many(401))
	refuses(t, api.ErrMany, many(401), gone(".wh.f000"))
	refuses(t, api.ErrMany, make([]Node, 401), bad...)
	refuses(t, api.ErrPath, many(400), bad...)
}

// P16.2: at most 200 entries, and that is told ahead of what they say.
func TestApplyManyEntries(t *testing.T) {
	var l []entry
	for i := range 202 {
		l = append(l, xFile(fmt.Sprintf("n%d", i), "x"))
	}
	for _, n := range []int{0, 1, 199, 200} {
		if out, e := asWords(t, nil, l[:n]); e != api.OK || len(out) != n {
			t.Errorf("of %d entries: %d nodes, %d", n, len(out), int(e))
		}
	}
	refuses(t, api.ErrMany, nil, l[:201]...)
	refuses(t, api.ErrMany, nil, l...)
	refuses(t, api.ErrMany, nil, make([]entry, 201)...)
	refuses(t, api.ErrPath, nil, make([]entry, 200)...)
	same := slices.Repeat(layer(gone(".wh.x")), 201)
	refuses(t, api.ErrMany, nil, same...)
	applies(t, tree(file("x", "")), same[:200])
}

// P16.2: the first entry that may not be says the error, wherever others stand.
func TestApplyFirstError(t *testing.T) {
	l := tree(dir("d"), file("f", "x"))
	wrong := []struct {
		x  entry
		no api.Errno
	}{
		{xFile("..", ""), api.ErrPath}, {xFile("\x00", ""), api.ErrPath}, {xFile(times("n", 201), ""), api.ErrLong}, {xFile("", ""), api.ErrPath}, {xFile("f/x", ""), api.ErrPath},
		{xLink("h", "none"), api.ErrNone}, {xLink("h", "d"), api.ErrNone}, {xLink("h", ".."), api.ErrPath}, {xLink("h", times("n", 201)), api.ErrLong},
		{xDir("x", 4096), api.ErrArg}, {xSymlink("s", ""), api.ErrArg}, {entry{Name: "k"}, api.ErrArg},
	}
	for _, a := range wrong {
		refuses(t, a.no, l, a.x)
		refuses(t, a.no, l, xFile("y", ""), gone(".wh.d"), a.x)
		for _, b := range wrong {
			refuses(t, a.no, l, a.x, b.x)
			refuses(t, a.no, l, xFile("y", ""), a.x, xFile("z", ""), b.x)
		}
	}
}

// P16.2: which error of an entry comes first.
func TestApplyFirstErrorOfAnEntry(t *testing.T) {
	l := tree(dir("d"), file("f", "x"))
	for _, x := range []struct {
		x  entry
		no api.Errno
	}{
		// The path's ahead of the kind's, and of all others.
		{entry{Kind: 9, Name: "..", Mode: -1}, api.ErrPath},
		{entry{Kind: 9, Name: times("n", 201), Mode: -1}, api.ErrLong},
		{entry{Kind: 9, Name: "", Mode: -1}, api.ErrPath},
		{entry{Kind: api.TaLink, Name: times("n", 201), To: ".."}, api.ErrLong},
		// The directories' ahead of the node's.
		{entry{Kind: 9, Name: "f/x"}, api.ErrPath},
		{entry{Kind: api.TaFile, Name: "f/x", Mode: -1}, api.ErrPath},
		{entry{Kind: api.TaLink, Name: "f/x", To: "none"}, api.ErrPath},
		{entry{Kind: api.TaLink, Name: "f/x", To: times("n", 201)}, api.ErrPath},
		{entry{Kind: api.TaSymlink, Name: "f/x/y"}, api.ErrPath},
		// Where a link leads ahead of what is there.
		{entry{Kind: api.TaLink, Name: "h", To: "../f"}, api.ErrPath},
		{entry{Kind: api.TaLink, Name: "h", To: "\x00"}, api.ErrPath},
		{entry{Kind: api.TaLink, Name: "h", To: times("n", 201)}, api.ErrLong},
		{entry{Kind: api.TaLink, Name: "h", To: "none", Mode: -1}, api.ErrNone},
		// Of a whiteout nothing else is looked at.
		{entry{Kind: 9, Name: "f/.wh.x", Mode: -1}, api.OK},
		{entry{Kind: 9, Name: "../.wh.x", Mode: -1}, api.ErrPath},
	} {
		if _, e := asWords(t, l, layer(x.x)); e != x.no {
			t.Errorf("Apply of %s: %d; want %d", told(layer(x.x)), int(e), int(x.no))
		}
	}
}

// P16.2: the root is a directory, of which nothing is done, and nothing else.
func TestApplyRoot(t *testing.T) {
	l := tree(dir("a"), file("a/b", "x"))
	for _, name := range []string{"", "/", ".", "./", "a/..", "//./x/../", "a/.wh.b/../.."} {
		applies(t, l, layer(xDir(name, 0o700)), l...)
		applies(t, nil, layer(xDir(name, 0o700)))
		applies(t, l, layer(xDir(name, -1)), l...)
		applies(t, l, layer(entry{Kind: api.TaDir, Name: name, Mode: 4096, Data: "x", To: ".."}), l...)
		for _, x := range []entry{xFile(name, ""), xLink(name, "a/b"), xLink(name, "none"), xSymlink(name, "a"), {Name: name}, {Kind: 5, Name: name}, {Kind: -1, Name: name}} {
			refuses(t, api.ErrPath, l, x)
			refuses(t, api.ErrPath, nil, x)
		}
	}
}

// P16.2: a path is looked at as paths tells it; one that leads out, has a byte 0, or is too long, is refused.
func TestApplyPaths(t *testing.T) {
	for _, x := range [][2]string{{"/a", "a"}, {"a/", "a"}, {"./a", "a"}, {"a/.", "a"}, {"x/../a", "a"}, {"a//b", "a a/b"}, {"/a/./b//../c/", "a a/c"}, {"a/b/../../c", "c"}, {"...", "..."}, {"ä/\xff", "ä ä/\xff"}} {
		leaves(t, nil, layer(xFile(x[0], "1")), x[1])
		leaves(t, nil, layer(xDir(x[0], 1)), x[1])
		leaves(t, nil, layer(xSymlink(x[0], "x")), x[1])
		leaves(t, tree(file("f", "")), layer(xLink(x[0], "f")), x[1]+" f")
	}
	for _, name := range []string{"..", "../", "/..", "../x", "a/../..", "a/../../x", "a/../../.wh.x", "../.wh..wh..opq", "a\x00", "a/\x00/b", "\x00/.wh.x", "a\x00/.."} {
		for kind := range 7 {
			refuses(t, api.ErrPath, tree(dir("a"), file("x", "")), entry{Kind: kind, Name: name, To: "x"})
		}
	}
	for _, name := range []string{times("a", 201), deep(101, 1), deep(100, 1) + "/.wh.x", times("a", 195) + "/.wh..wh..opq"} {
		for kind := range 7 {
			refuses(t, api.ErrLong, tree(dir("a"), file("x", "")), entry{Kind: kind, Name: name, To: "x"})
		}
	}
	leaves(t, nil, layer(xFile(times("a", 200), "")), times("a", 200))
	leaves(t, nil, layer(xFile("x/../"+times("a", 200)+"/.", "")), times("a", 200))
	if out, e := asWords(t, nil, layer(xFile(deep(100, 1), "x"))); e != api.OK || len(out) != 100 || out[99] != file(deep(100, 1), "x") || out[0] != dir("p") {
		t.Errorf("Apply of a path of 100 parts: %s, %d", shown(out), int(e))
	}
}

// P16.2: a whiteout takes away what is there, and all in it, and nothing else.
func TestApplyWhiteouts(t *testing.T) {
	l := rising(dir("a"), file("a-", ""), file("a.b", ""), dir("a/b"), file("a/b/c", ""), file("a/b-", ""), file("a/bc", ""), file("a0", ""), dir("b"), dir("b/a"), file("b/a/b", ""), symlink("c", "a"))
	all := pathsOf(l)
	for _, x := range [][2]string{
		{".wh.a", "a- a.b a0 b b/a b/a/b c"},
		{".wh.b", "a a- a.b a/b a/b/c a/b- a/bc a0 c"},
		{".wh.c", "a a- a.b a/b a/b/c a/b- a/bc a0 b b/a b/a/b"},
		{".wh.a-", "a a.b a/b a/b/c a/b- a/bc a0 b b/a b/a/b c"},
		{"a/.wh.b", "a a- a.b a/b- a/bc a0 b b/a b/a/b c"},
		{"a/b/.wh.c", "a a- a.b a/b a/b- a/bc a0 b b/a b/a/b c"},
		{"b/.wh.a", "a a- a.b a/b a/b/c a/b- a/bc a0 b c"},
		{"/x/../a//./.wh.b/", "a a- a.b a/b- a/bc a0 b b/a b/a/b c"},
		{".wh..wh..opq", ""},
		{"a/.wh..wh..opq", "a a- a.b a0 b b/a b/a/b c"},
		{"a/b/.wh..wh..opq", "a a- a.b a/b a/b- a/bc a0 b b/a b/a/b c"},
		{"b/a/.wh..wh..opq", "a a- a.b a/b a/b/c a/b- a/bc a0 b b/a c"},
		// What is not there, in a directory that is there, is not, is a file, or a symlink.
		{".wh.x", all}, {"a/.wh.a", all}, {"a/b/.wh.b", all}, {"x/.wh.a", all}, {"x/y/.wh.a", all}, {"a-/.wh.a", all}, {"a/b/c/.wh.c", all}, {"c/.wh.b", all}, {".wh.A", all}, {".wh.a ", all},
		{"x/.wh..wh..opq", all}, {"a/b/c/.wh..wh..opq", all}, {"a-/.wh..wh..opq", all}, {"c/.wh..wh..opq", all}, {"a/x/.wh..wh..opq", all},
	} {
		for kind := -1; kind < 7; kind++ {
			leaves(t, l, layer(entry{Kind: kind, Name: x[0], Mode: -1, To: "..", Data: "x"}), x[1])
			leaves(t, l, layer(entry{Kind: kind, Name: x[0]}, entry{Kind: kind, Name: x[0]}), x[1])
		}
		leaves(t, nil, layer(gone(x[0])), "")
	}
}

// P16.2: a whiteout's name that is no part takes nothing away: it is laid as others are.
func TestApplyWhiteoutsThatAreNone(t *testing.T) {
	l := tree(dir("a"), file("a/b", ""))
	for _, base := range []string{".wh.", ".wh..", ".wh...", ".wh..wh.", ".wh..wh.a", ".wh..wh..opqx", ".wh", "wh.a", ".WH.a", "x.wh.a"} {
		applies(t, l, layer(xFile(base, "1")), rising(file(base, "1"), l[0], l[1])...)
	}
	applies(t, l, layer(xDir("a/.wh.", 7)), l[0], Node{"a/.wh.", api.TaDir, 7, ""}, l[1])
	refuses(t, api.ErrArg, l, entry{Kind: 5, Name: ".wh."})
	// Only a path's last part takes away.
	leaves(t, l, layer(xFile(".wh.a/b", "1")), ".wh.a .wh.a/b a a/b")
	leaves(t, l, layer(xFile("a/.wh..wh..opq/c", "1")), "a a/.wh..wh..opq a/.wh..wh..opq/c a/b")
	leaves(t, l, layer(xFile(".wh.x/.wh.y/c", ""), gone(".wh.x/.wh.c")), ".wh.x .wh.x/.wh.y .wh.x/.wh.y/c a a/b")
	// A tree may have nodes of such names; a whiteout takes away what it names.
	leaves(t, tree(file(".wh.x", ""), file("x", "")), layer(gone(".wh.x")), ".wh.x")
	leaves(t, tree(dir(".wh.a"), file(".wh.a/b", "")), layer(gone(".wh.a/.wh.b")), ".wh.a")
	leaves(t, tree(dir(".wh.a"), file(".wh.a/b", "")), layer(gone(".wh.a/.wh..wh..opq")), ".wh.a")
}

// P16.2: what the layer itself laid stays, and all that it is in, ahead of the whiteout and behind it.
func TestApplyWhiteoutsOfOnesOwn(t *testing.T) {
	l := tree(dir("a"), dir("a/b"), file("a/b/c", ""), dir("a/d"), dir("a/d/e"), file("a/d/e/f", ""), file("a/g", ""), file("h", ""))
	for _, x := range []struct {
		layer []entry
		want  string
	}{
		// What the layer laid.
		{layer(xFile("x", ""), gone(".wh.x")), "a a/b a/b/c a/d a/d/e a/d/e/f a/g h x"},
		{layer(xFile("h", ""), gone(".wh.h")), "a a/b a/b/c a/d a/d/e a/d/e/f a/g h"},
		{layer(gone(".wh.h"), xFile("h", "")), "a a/b a/b/c a/d a/d/e a/d/e/f a/g h"},
		{layer(xFile("x/y/z", ""), gone(".wh.x"), gone("x/.wh.y"), gone("x/y/.wh.z")), "a a/b a/b/c a/d a/d/e a/d/e/f a/g h x x/y x/y/z"},
		{layer(xDir("x", 1), gone(".wh.x"), gone("x/.wh..wh..opq")), "a a/b a/b/c a/d a/d/e a/d/e/f a/g h x"},
		{layer(xLink("l", "h"), xSymlink("s", "h"), gone(".wh.l"), gone(".wh.s"), gone(".wh.h")), "a a/b a/b/c a/d a/d/e a/d/e/f a/g l s"},
		// A directory that was there is the layer's own, once it laid it; what is in it is not.
		{layer(xDir("a", 1), gone(".wh.a")), "a h"},
		{layer(xDir("a/d", 1), gone(".wh.a")), "a a/d h"},
		{layer(xDir("a/d", 1), gone("a/.wh.d")), "a a/b a/b/c a/d a/g h"},
		{layer(xDir("a/d", 1), gone("a/d/.wh..wh..opq")), "a a/b a/b/c a/d a/g h"},
		// One in which the layer laid something stays, with that alone.
		{layer(xFile("a/x", ""), gone(".wh.a")), "a a/x h"},
		{layer(xFile("a/d/x", ""), gone(".wh.a")), "a a/d a/d/x h"},
		{layer(xFile("a/d/e/x", ""), gone(".wh.a")), "a a/d a/d/e a/d/e/x h"},
		{layer(xFile("a/d/x", ""), gone("a/.wh.d")), "a a/b a/b/c a/d a/d/x a/g h"},
		{layer(xFile("a/d/x", ""), gone("a/d/.wh.e")), "a a/b a/b/c a/d a/d/x a/g h"},
		{layer(xFile("a/b/c", ""), gone(".wh.a")), "a a/b a/b/c h"},
		{layer(xFile("a/x", ""), xFile("a/d/y", ""), gone("a/.wh.d"), gone("a/.wh.b")), "a a/d a/d/y a/g a/x h"},
		// Behind the whiteout it is laid anew.
		{layer(gone(".wh.a"), xFile("a/x", "")), "a a/x h"},
		{layer(gone(".wh.a"), xFile("a/d/e/x", "")), "a a/d a/d/e a/d/e/x h"},
		{layer(xFile("a/x", ""), gone(".wh.a"), xFile("a/d/y", ""), gone(".wh.a")), "a a/d a/d/y a/x h"},
		// What a refusal or a root's entry would be is no more the layer's than ahead.
		{layer(xDir("", 1), gone(".wh.a")), "h"},
		{layer(gone("a/.wh.x"), gone(".wh.a")), "h"},
		{layer(gone("a/.wh.g"), gone("a/d/e/.wh..wh..opq"), gone(".wh.a")), "h"},
		// Whoever is named as one of these, but stands elsewhere, stays as it is.
		{layer(xFile("a-", ""), gone(".wh.a")), "a- h"},
		{layer(xFile("ab/x", ""), gone(".wh.a")), "ab ab/x h"},
		{layer(xFile("a/dd/x", ""), gone("a/.wh.d")), "a a/b a/b/c a/dd a/dd/x a/g h"},
	} {
		leaves(t, l, x.layer, x.want)
	}
}

// P16.2: an opaque whiteout takes all away that is in its directory, but not the directory, and nothing that is the layer's own, ahead of it or behind it.
func TestApplyOpaque(t *testing.T) {
	l := tree(dir("a"), file("a-", ""), dir("a/b"), file("a/b/c", ""), file("a/g", ""), file("h", ""))
	const all = "a a- a/b a/b/c a/g h"
	for _, x := range []struct {
		layer []entry
		want  string
	}{
		{layer(gone(".wh..wh..opq")), ""},
		{layer(gone(".wh..wh..opq"), xFile("x", "")), "x"},
		{layer(xFile("x", ""), gone(".wh..wh..opq")), "x"},
		{layer(xFile("a/x", ""), gone(".wh..wh..opq")), "a a/x"},
		{layer(xFile("a/b/x", ""), gone(".wh..wh..opq"), xFile("y", "")), "a a/b a/b/x y"},
		{layer(xDir("a", 1), gone(".wh..wh..opq")), "a"},
		{layer(gone("a/.wh..wh..opq")), "a a- h"},
		{layer(gone("a/.wh..wh..opq"), xFile("a/x", "")), "a a- a/x h"},
		{layer(xFile("a/x", ""), gone("a/.wh..wh..opq")), "a a- a/x h"},
		{layer(xFile("a/x", ""), gone("a/.wh..wh..opq"), xFile("a/y", ""), gone("a/.wh..wh..opq")), "a a- a/x a/y h"},
		{layer(xFile("a/b/x", ""), gone("a/.wh..wh..opq")), "a a- a/b a/b/x h"},
		{layer(xDir("a/b", 1), gone("a/.wh..wh..opq")), "a a- a/b h"},
		{layer(gone("a/b/.wh..wh..opq"), gone("a/.wh.g")), "a a- a/b h"},
		{layer(gone("x/.wh..wh..opq")), all},
		{layer(gone("x/.wh..wh..opq"), xFile("x/y", "")), all + " x x/y"},
		{layer(xFile("x/y", ""), gone("x/.wh..wh..opq")), all + " x x/y"},
		{layer(gone("a-/.wh..wh..opq")), all},
		{layer(gone("a/.wh..wh..opq"), gone(".wh.a")), "a- h"},
		{layer(gone("a/.wh..wh..opq"), gone(".wh..wh..opq")), ""},
	} {
		leaves(t, l, x.layer, x.want)
	}
	// A directory that stays has the mode that it had; one that was away has that of those that are laid on the way.
	own := Node{"a", api.TaDir, 0o700, ""}
	applies(t, tree(own, file("a/b", "")), layer(gone("a/.wh..wh..opq"), xFile("a/c", "1")), own, file("a/c", "1"))
	applies(t, tree(own, file("a/b", "")), layer(xFile("a/c", "1"), gone(".wh.a")), own, file("a/c", "1"))
	applies(t, tree(own, file("a/b", "")), layer(gone(".wh.a"), xFile("a/c", "1")), dir("a"), file("a/c", "1"))
}

// P16.2: directories that a path is in, and that are not there, are laid, with the mode 493; those that are there stay as they are.
func TestApplyDirectoriesOnTheWay(t *testing.T) {
	applies(t, nil, layer(xFile("a/b/c/d", "1")), dir("a"), dir("a/b"), dir("a/b/c"), file("a/b/c/d", "1"))
	own := Node{"a", api.TaDir, 0o700, ""}
	applies(t, tree(own), layer(xFile("a/b/c", "1")), own, dir("a/b"), file("a/b/c", "1"))
	applies(t, tree(own), layer(xDir("a/b", 1), xSymlink("a/b/c", "x")), own, Node{"a/b", api.TaDir, 1, ""}, symlink("a/b/c", "x"))
	applies(t, nil, layer(xFile("a/b", "1"), xDir("a", 2)), Node{"a", api.TaDir, 2, ""}, file("a/b", "1"))
	applies(t, nil, layer(xDir("a", 2), xFile("a/b", "1")), Node{"a", api.TaDir, 2, ""}, file("a/b", "1"))
	applies(t, tree(file("x", "1")), layer(xLink("a/b", "x")), dir("a"), file("a/b", "1"), file("x", "1"))
	for n := 1; n <= 100; n++ {
		if out, e := asWords(t, nil, layer(xDir(deep(n, 1), 493))); e != api.OK || len(out) != n {
			t.Errorf("of a path of %d parts: %d nodes, %d", n, len(out), int(e))
		}
	}
}

// P16.2: a path in what is no directory is refused, wherever it stands on the way.
func TestApplyInNoDirectory(t *testing.T) {
	l := tree(dir("a"), file("a/f", "x"), symlink("a/s", "."), file("f", "x"), symlink("s", "a"))
	for _, name := range []string{"f/x", "f/x/y", "s/x", "s/f", "s/x/y", "a/f/x", "a/s/x", "a/s/f", "a/f/x/y/z"} {
		for _, x := range []entry{xFile(name, ""), xDir(name, 1), xSymlink(name, "x"), xLink(name, "f"), xLink(name, "none"), {Name: name}} {
			refuses(t, api.ErrPath, l, x)
		}
	}
	refuses(t, api.ErrPath, nil, xFile("x", ""), xFile("x/y", ""))
	refuses(t, api.ErrPath, nil, xSymlink("x", "."), xFile("x/y", ""))
	refuses(t, api.ErrPath, nil, xFile("x/y", ""), xFile("x", ""), xFile("x/y", ""))
	// Where it is taken away, or a directory is laid in its place, all is well.
	leaves(t, l, layer(gone(".wh.f"), xFile("f/x", "")), "a a/f a/s f f/x s")
	leaves(t, l, layer(xDir("s", 1), xFile("s/x", "")), "a a/f a/s f s s/x")
}

// P16.2: a file with its mode and its data, of all sizes that matter; of its To nothing is looked at.
func TestApplyFiles(t *testing.T) {
	for _, size := range []int{0, 1, 512, 65535, 65536} {
		data := times("x", size)
		applies(t, nil, layer(entry{Kind: api.TaFile, Name: "a", Mode: 0o4755, Data: data}), Node{"a", api.TaFile, 0o4755, data})
	}
	refuses(t, api.ErrArg, nil, xFile("a", times("x", 65537)))
	refuses(t, api.ErrArg, nil, xFile("a", times("x", 1<<20)))
	applies(t, nil, layer(entry{Kind: api.TaFile, Name: "a", To: "..", Data: "x"}), Node{"a", api.TaFile, 0, "x"})
	applies(t, nil, layer(entry{Kind: api.TaFile, Name: "a", To: times("t", 201)}), Node{"a", api.TaFile, 0, ""})
	applies(t, tree(file("a", "old")), layer(xFile("a", "new")), file("a", "new"))
	applies(t, nil, layer(xFile("a", "1"), xFile("a", "2"), xFile("a", "\x00\xff")), file("a", "\x00\xff"))
}

// P16.2: a directory with its mode; of its Data and its To nothing is looked at.
func TestApplyDirectories(t *testing.T) {
	applies(t, nil, layer(xDir("a", 0)), Node{"a", api.TaDir, 0, ""})
	applies(t, nil, layer(entry{Kind: api.TaDir, Name: "a/", Mode: 4095, Data: "x", To: ".."}), Node{"a", api.TaDir, 4095, ""})
	applies(t, nil, layer(entry{Kind: api.TaDir, Name: "a", Data: times("x", 65537), To: times("t", 201)}), Node{"a", api.TaDir, 0, ""})
}

// P16.2: a symlink with its mode, and its To as data, which is looked at as bytes alone; of its Data nothing is looked at.
func TestApplySymlinks(t *testing.T) {
	for _, to := range []string{"x", "..", "../../x", "/", "a//b/", ".", "\x00", "\xff", times("t", 199), times("t", 200), times("/", 200)} {
		applies(t, nil, layer(entry{Kind: api.TaSymlink, Name: "a", Mode: 1, To: to}), Node{"a", api.TaSymlink, 1, to})
		applies(t, nil, layer(entry{Kind: api.TaSymlink, Name: "a", Mode: 1, To: to, Data: times("x", 65537)}), Node{"a", api.TaSymlink, 1, to})
	}
	for _, to := range []string{"", times("t", 201), times("t", 5000), times("/", 201)} {
		refuses(t, api.ErrArg, nil, entry{Kind: api.TaSymlink, Name: "a", To: to, Data: "x"})
	}
}

// P16.2: a link is laid as a file, with the mode and the data of the one that it leads to; of its own Mode and Data nothing is looked at.
func TestApplyLinks(t *testing.T) {
	f := Node{"f", api.TaFile, 0o4600, "data"}
	as := func(path string) Node { return Node{path, f.Kind, f.Mode, f.Data} }
	for _, to := range []string{"f", "/f", "./f", "f/", "x/../f", "//f//."} {
		applies(t, tree(f), layer(xLink("h", to)), f, as("h"))
		applies(t, tree(f), layer(xLink("d/h", to)), dir("d"), as("d/h"), f)
		applies(t, tree(f), layer(xLink("f", to)), f)
		for _, mode := range []int{-1, 0, 4095, 4096, math.MaxInt, math.MinInt} {
			applies(t, tree(f), layer(entry{Kind: api.TaLink, Name: "h", Mode: mode, To: to, Data: times("x", 65537)}), f, as("h"))
		}
	}
	applies(t, nil, layer(xFile("a", "1"), xLink("b", "a"), xLink("c", "b"), xFile("a", "2"), gone(".wh.b")), file("a", "2"), file("b", "1"), file("c", "1"))
	applies(t, tree(f), layer(xLink("a", "f"), gone(".wh.f"), xLink("b", "a")), as("a"), as("b"))
	applies(t, tree(f), layer(xLink("a", "f"), xFile("f", "new")), as("a"), file("f", "new"))
	applies(t, tree(f), layer(gone(".wh.f"), xFile("f", "new"), xLink("a", "f")), file("a", "new"), file("f", "new"))
	// One that leads into the directory whose place it takes.
	applies(t, tree(dir("d"), file("d/a", "1"), file("d/b", "2")), layer(xLink("d", "d/a")), file("d", "1"))
	applies(t, tree(dir("d"), file("d/a", ""), file("e", "2")), layer(xLink("d", "e")), file("d", "2"), file("e", "2"))
	applies(t, tree(file("e", "2"), symlink("s", "e")), layer(xLink("s", "e")), file("e", "2"), file("s", "2"))
	// One to itself stays, and is the layer's own.
	applies(t, tree(f), layer(xLink("f", "f"), gone(".wh.f")), f)
	applies(t, tree(f), layer(gone(".wh..wh..opq"), xFile("g", "")), file("g", ""))
}

// P16.2: a link to nothing, to what is no file, or to a path that may not be, is refused.
func TestApplyLinksToNoFile(t *testing.T) {
	l := tree(dir("d"), file("d/f", "1"), file("f", "1"), symlink("s", "f"))
	for _, name := range []string{"h", "d/h", "f", "x/y/h"} {
		for _, to := range []string{"none", "d", "d/", "s", "", "/", ".", "d/..", "d/none", "none/f", "f/x", "s/f", "F", "d/f/x", ".wh.f", "x", "x/y", "x/y/h", times("n", 200)} {
			refuses(t, api.ErrNone, l, xLink(name, to))
		}
		for _, to := range []string{"..", "../f", "/../f", "d/../../f", "f\x00", "\x00", "\x00/../f"} {
			refuses(t, api.ErrPath, l, xLink(name, to))
		}
		for _, to := range []string{times("n", 201), deep(101, 1), "d/" + times("n", 199)} {
			refuses(t, api.ErrLong, l, xLink(name, to))
		}
	}
	refuses(t, api.ErrNone, nil, xLink("h", "h"))
	refuses(t, api.ErrNone, l, gone(".wh.f"), xLink("h", "f"))
	refuses(t, api.ErrNone, l, gone(".wh.f"), xLink("f", "f"))
	refuses(t, api.ErrNone, l, xDir("f", 1), xLink("h", "f"))
	refuses(t, api.ErrNone, l, xSymlink("f", "d"), xLink("h", "f"))
	refuses(t, api.ErrNone, l, xFile("d", ""), xLink("h", "d/f"))
	refuses(t, api.ErrPath, l, xLink("f/h", "f"))
}

// P16.2: a node that may not be, and a kind that is none, are refused.
func TestApplyNodesThatMayNotBe(t *testing.T) {
	l := tree(dir("d"), file("f", "1"))
	for _, name := range []string{"x", "d", "f", "d/x", "x/y"} {
		for _, mode := range []int{math.MinInt, -2, -1, 4096, 4097, 1 << 32, math.MaxInt} {
			for _, kind := range []int{api.TaFile, api.TaDir, api.TaSymlink} {
				refuses(t, api.ErrArg, l, entry{Kind: kind, Name: name, Mode: mode, To: "x"})
			}
		}
		for _, kind := range []int{math.MinInt, -1, 0, 5, 6, 7, 256 + api.TaFile, 1<<32 + api.TaDir, math.MaxInt} {
			refuses(t, api.ErrArg, l, entry{Kind: kind, Name: name, To: "f"})
			refuses(t, api.ErrArg, l, entry{Kind: kind, Name: name})
		}
		for _, mode := range []int{0, 1, 4094, 4095} {
			for _, kind := range []int{api.TaFile, api.TaDir, api.TaSymlink} {
				if _, e := asWords(t, l, layer(entry{Kind: kind, Name: name, Mode: mode, To: "x"})); e != api.OK {
					t.Errorf("kind %d, mode %d at %s: %d", kind, mode, name, int(e))
				}
			}
		}
	}
}

// P16.2: what was there goes, and all in it, unless both are directories.
func TestApplyInThePlaceOfOthers(t *testing.T) {
	l := tree(dir("a"), file("a-", ""), dir("a/b"), file("a/b/c", ""), symlink("a/s", "x"), file("a0", ""), file("f", "1"), symlink("s", "x"))
	for _, x := range []struct {
		x    entry
		want string
	}{
		{xFile("a", "2"), "a a- a0 f s"},
		{xSymlink("a", "y"), "a a- a0 f s"},
		{xLink("a", "f"), "a a- a0 f s"},
		{xLink("a", "a/b/c"), "a a- a0 f s"},
		{xDir("a", 0o700), "a a- a/b a/b/c a/s a0 f s"},
		{xFile("a/b", "2"), "a a- a/b a/s a0 f s"},
		{xSymlink("a/b", "y"), "a a- a/b a/s a0 f s"},
		{xDir("a/b", 0o700), "a a- a/b a/b/c a/s a0 f s"},
		{xFile("f", "2"), "a a- a/b a/b/c a/s a0 f s"},
		{xDir("f", 0o700), "a a- a/b a/b/c a/s a0 f s"},
		{xSymlink("f", "y"), "a a- a/b a/b/c a/s a0 f s"},
		{xFile("s", "2"), "a a- a/b a/b/c a/s a0 f s"},
		{xDir("s", 0o700), "a a- a/b a/b/c a/s a0 f s"},
		{xSymlink("s", "y"), "a a- a/b a/b/c a/s a0 f s"},
	} {
		leaves(t, l, layer(x.x), x.want)
		out, _ := Apply(l, layer(x.x))
		n, _ := Find(out, x.x.Name)
		if x.x.Kind != api.TaLink && (n.Kind != x.x.Kind || n.Mode != x.x.Mode || n.Data != x.x.Data+x.x.To) {
			t.Errorf("%s is laid as %v", told(layer(x.x)), n)
		}
		// Also what the layer itself laid goes so.
		own := layer(xFile("a/b/x", ""), xFile("a/x", ""), x.x)
		want, _ := appliedAs(l, own)
		applies(t, l, own, want...)
	}
	leaves(t, nil, layer(xFile("a/b/c", ""), xFile("a", "")), "a")
	leaves(t, nil, layer(xFile("a/b/c", ""), xFile("a", ""), xDir("a", 1)), "a")
	leaves(t, nil, layer(xFile("a/b/c", ""), xSymlink("a/b", "x"), gone(".wh.a")), "a a/b")
	leaves(t, tree(dir("a"), file("a/b", "")), layer(xFile("a", ""), xDir("a", 1), xFile("a/c", ""), gone(".wh.a")), "a a/c")
}

// P16.2: at the end, and only there, at most 400 nodes.
func TestApplyManyNodes(t *testing.T) {
	l := many(400)
	applies(t, l, nil, l...)
	applies(t, l, layer(xFile("f000", "y"), xFile("f399", "y")), append(append(tree(file("f000", "y")), l[1:399]...), file("f399", "y"))...)
	refuses(t, api.ErrMany, l, xFile("g", ""))
	refuses(t, api.ErrMany, l, xDir("g", 1))
	refuses(t, api.ErrMany, l, xLink("g", "f000"))
	refuses(t, api.ErrMany, l, xFile("g/h", ""))
	refuses(t, api.ErrMany, l[:399], xFile("g/h", ""))
	applies(t, l[:399], layer(xFile("g", "")), append(l[:399:399], file("g", ""))...)
	applies(t, l, layer(xFile("g", ""), gone(".wh.f000")), append(l[1:400:400], file("g", ""))...)
	applies(t, l, layer(gone(".wh.f000"), xFile("g", "")), append(l[1:400:400], file("g", ""))...)
	refuses(t, api.ErrPath, l, xFile("g", ""), xFile("g/h", ""))
	refuses(t, api.ErrMany, l, xFile("g", ""), gone(".wh.g"))
	// Far more on the way, as long as they are gone at the end.
	var wide []entry
	for i := range 199 {
		wide = append(wide, xFile(fmt.Sprintf("d/%03d/%s", i, deep(90, 1)), ""))
	}
	refuses(t, api.ErrMany, nil, wide...)
	refuses(t, api.ErrMany, nil, append(wide, gone(".wh.d"))...)
	applies(t, nil, append(wide, xFile("d", "x")), file("d", "x"))
	var down []entry
	for i := range 4 {
		down = append(down, xFile(string([]byte{byte('a' + i)})+deep(100, 1)[1:], ""))
	}
	if out, e := asWords(t, nil, down); e != api.OK || len(out) != 400 {
		t.Errorf("four paths of 100 parts: %d nodes, %d", len(out), int(e))
	}
	refuses(t, api.ErrMany, nil, append(down, xFile("e", ""))...)
}

// someEntries are such as touch nodes of a few paths.
func someEntries() []entry {
	var l []entry
	for i, name := range []string{"a", "a/b", "a/b/c", "a-", "b"} {
		l = append(l, entry{Kind: api.TaFile, Name: name, Mode: i, Data: "n"}, xDir(name, 10+i), entry{Kind: api.TaSymlink, Name: name, Mode: 20 + i, To: "t"}, xLink(name, "b"))
	}
	for _, name := range []string{".wh.a", "a/.wh.b", "a/b/.wh.c", ".wh.b", ".wh..wh..opq", "a/.wh..wh..opq", "a/b/.wh..wh..opq"} {
		l = append(l, gone(name))
	}
	return append(l, xLink("a", "a/b"), xLink("a/b", "a/b/c"), xDir("", 0))
}

// someTrees are all trees of a few paths.
func someTrees() [][]Node {
	var all [][]Node
	var more func(l []Node, names []string)
	more = func(l []Node, names []string) {
		if checkedAs(l) != api.OK {
			return
		}
		if len(names) == 0 {
			all = append(all, slices.Clone(l))
			return
		}
		more(l, names[1:])
		for _, n := range []Node{file(names[0], names[0]), dir(names[0]), symlink(names[0], "x")} {
			more(append(l, n), names[1:])
		}
	}
	more(nil, []string{"a", "a-", "a/b", "a/b/c", "b"})
	return all
}

// P16.2: all layers of up to two entries over all trees of a few paths, held against the document's words.
func TestApplyEach(t *testing.T) {
	entries := someEntries()
	for _, l := range someTrees() {
		asWords(t, l, nil)
		for _, a := range entries {
			asWords(t, l, layer(a))
			for _, b := range entries {
				asWords(t, l, layer(a, b))
			}
		}
	}
}

// P16.2: all layers of three entries over some trees, held against the document's words.
func TestApplyEachOfThree(t *testing.T) {
	entries := someEntries()
	for _, l := range [][]Node{
		nil,
		tree(dir("a"), dir("a/b"), file("a/b/c", "1"), file("b", "2")),
		tree(file("a", "1"), file("a-", "2")),
		tree(dir("a"), file("a-", "1"), symlink("a/b", "2"), dir("b")),
	} {
		for _, a := range entries {
			for _, b := range entries {
				for _, c := range entries {
					asWords(t, l, layer(a, b, c))
				}
			}
		}
	}
}

// follows fails, if what Apply tells is not what follows from the document's words.
func follows(t *testing.T, l []Node, layer []entry, out []Node) {
	t.Helper()
	if e := Check(out); e != api.OK {
		t.Errorf("Apply(%s, %s) = %s: Check tells %d", shown(l), told(layer), shown(out), int(e))
	}
	if again, e := Apply(out, nil); e != api.OK || !Same(again, out) {
		t.Errorf("a layer without entries changes %s: %s, %d", shown(out), shown(again), int(e))
	}
	for _, n := range out {
		if p := path.Clean(path.Join("/root", n.Path)); p != "/root/"+n.Path {
			t.Errorf("%s leads out", cut(n.Path))
		}
	}
	if s, e := Put(out); e == api.OK {
		gets(t, s, out...)
	} else if _, no := puttedAs(out); no != e {
		t.Errorf("Put(%s): %d", shown(out), int(e))
	}
}

// P16.2, P16.4: layers by chance over trees by chance, held against the document's words, and against what follows from them.
func TestApplyByChance(t *testing.T) {
	r := &numbers{1}
	got := map[api.Errno]int{}
	for range 60000 {
		l, layer := r.tree(), r.layer(12, r.sometimes)
		out, e := asWords(t, l, layer)
		got[e]++
		if e == api.OK {
			follows(t, l, layer, out)
		}
	}
	for _, e := range []api.Errno{api.OK, api.ErrPath, api.ErrNone, api.ErrArg, api.ErrLong} {
		if got[e] < 100 {
			t.Errorf("%d of them tell %d", got[e], int(e))
		}
	}
}

// lays tells whether an entry of a clean path lays something.
func lays(p string) bool {
	_, _, is := whiteoutOf(p)
	return p != "" && !is
}

// isThere fails, if a tree has not what an entry laid.
func isThere(t *testing.T, l []Node, p string, x entry) {
	t.Helper()
	n, ok := Find(l, p)
	want := Node{p, x.Kind, x.Mode, x.Data}
	switch x.Kind {
	case api.TaSymlink:
		want.Data = x.To
	case api.TaDir:
		want.Data = ""
	case api.TaLink:
		// What it leads to may be gone by its own place.
		want = Node{p, api.TaFile, n.Mode, n.Data}
	}
	if !ok || n != want {
		t.Errorf("%s is %s; want %s", cut(p), shown(tree(n)), shown(tree(want)))
	}
}

// P16.4: what a layer lays last is there; what it takes away, and does not lay, is not.
func TestApplyLaysAndTakesAway(t *testing.T) {
	r := &numbers{2}
	laid, taken := 0, 0
	for range 60000 {
		l, layer := r.tree(), r.layer(8, r.entry)
		out, e := Apply(l, layer)
		if e != api.OK || len(layer) == 0 {
			continue
		}
		if p, _ := cleaned(layer[len(layer)-1].Name); lays(p) {
			laid++
			isThere(t, out, p, layer[len(layer)-1])
		}
		for _, x := range layer {
			p, _ := cleaned(x.Name)
			top, itself, is := whiteoutOf(p)
			if !is || slices.ContainsFunc(layer, func(y entry) bool { p, _ := cleaned(y.Name); return lays(p) && (p == top || below(top, p)) }) {
				continue
			}
			taken++
			if slices.ContainsFunc(out, func(n Node) bool { return itself && n.Path == top || below(top, n.Path) }) {
				t.Errorf("Apply(%s, %s) = %s: it has what was taken away at %s", shown(l), told(layer), shown(out), top)
			}
		}
	}
	if laid < 10000 || taken < 5000 {
		t.Errorf("%d laid, %d taken away", laid, taken)
	}
}

// P16.2: Fold of no layers, of one, of several.
func TestFold(t *testing.T) {
	for _, none := range [][][]entry{nil, {}, {nil}, {nil, {}, nil}} {
		if l, e := folds(t, none); e != api.OK || len(l) != 0 {
			t.Errorf("Fold of nothing: %s, %d", shown(l), int(e))
		}
	}
	for _, x := range []struct {
		layers [][]entry
		want   string
	}{
		{layers(layer(xFile("a/b", "1"))), "a a/b"},
		{layers(layer(xFile("x", "1")), layer(gone(".wh.x"), xFile("y", "2"))), "y"},
		{layers(layer(xFile("x", "1")), layer(xFile("y", "2"), gone(".wh.x"))), "y"},
		{layers(layer(xFile("x", "1"), gone(".wh.x"))), "x"},
		{layers(layer(xFile("a/x", "")), layer(xFile("a/y", "")), layer(gone(".wh.a"))), ""},
		{layers(layer(xFile("a/x", "")), layer(xFile("a/y", ""), gone("a/.wh..wh..opq"))), "a a/y"},
		{layers(layer(xFile("a/x", "")), nil, layer(xFile("a/y", "")), nil, layer(xFile("a/z", ""), gone(".wh.a"))), "a a/z"},
		{layers(layer(xFile("a/b/x", "")), layer(xDir("a", 1), gone(".wh.a")), layer(gone(".wh.a"))), ""},
		{layers(layer(xFile("x", "1")), layer(xLink("y", "x")), layer(gone(".wh.x")), layer(xLink("z", "y"))), "y z"},
		{layers(layer(xFile("a/b", "")), layer(xSymlink("a", "x")), layer(xDir("a", 1)), layer(xFile("a/c", ""))), "a a/c"},
	} {
		if l, e := folds(t, x.layers); e != api.OK || pathsOf(l) != x.want {
			t.Errorf("Fold: %s, %d; want %s", pathsOf(l), int(e), x.want)
		}
	}
}

// P16.2: Fold tells the first error of a layer, wherever it stands.
func TestFoldOfRefused(t *testing.T) {
	good, bad, other := layer(xFile("a/b", "1")), layer(xFile("x", ""), xFile("..", "")), layer(xLink("h", "none"))
	for _, x := range []struct {
		layers [][]entry
		no     api.Errno
	}{
		{layers(bad), api.ErrPath}, {layers(bad, good), api.ErrPath}, {layers(good, bad), api.ErrPath}, {layers(good, bad, good), api.ErrPath},
		{layers(good, bad, other), api.ErrPath}, {layers(good, other, bad), api.ErrNone}, {layers(good, good, other, good), api.ErrNone},
		{layers(make([]entry, 201)), api.ErrMany}, {layers(good, make([]entry, 201), bad), api.ErrMany}, {layers(good, bad, make([]entry, 201)), api.ErrPath},
		{layers(layer(xFile("a", "")), layer(xFile("a/b", ""))), api.ErrPath},
		{layers(layer(xFile("a", "")), layer(gone(".wh.a")), layer(xLink("b", "a"))), api.ErrNone},
	} {
		if l, e := folds(t, x.layers); e != x.no || l != nil {
			t.Errorf("Fold: %s, %d; want %d", shown(l), int(e), int(x.no))
		}
	}
}

// P16.2: each layer has at most 400 nodes at its end, also if later ones take some away.
func TestFoldManyNodes(t *testing.T) {
	var all [][]entry
	for i := range 2 {
		var l []entry
		for j := range 200 {
			l = append(l, xFile(fmt.Sprintf("%d-%d", i, j), ""))
		}
		all = append(all, l)
	}
	if l, e := folds(t, all); e != api.OK || len(l) != 400 {
		t.Errorf("%d nodes, %d", len(l), int(e))
	}
	if l, e := folds(t, append(all[:2:2], layer(xFile("x", "")))); e != api.ErrMany || l != nil {
		t.Errorf("%d nodes, %d", len(l), int(e))
	}
	if l, e := folds(t, append(all[:2:2], layer(xFile("x", "")), layer(gone(".wh..wh..opq")))); e != api.ErrMany || l != nil {
		t.Errorf("%d nodes, %d", len(l), int(e))
	}
	if l, e := folds(t, append(all[:2:2], layer(gone(".wh.0-0"), xFile("x", "")), layer(gone(".wh..wh..opq")))); e != api.OK || len(l) != 0 {
		t.Errorf("%d nodes, %d", len(l), int(e))
	}
}

// P16.2: layers by chance, one over the other.
func TestFoldByChance(t *testing.T) {
	r := &numbers{3}
	got := map[api.Errno]int{}
	for range 20000 {
		var all [][]entry
		for range r.below(7) {
			all = append(all, r.layer(6, r.sometimes))
		}
		l, e := folds(t, all)
		got[e]++
		if e == api.OK {
			follows(t, nil, nil, l)
		}
	}
	for _, e := range []api.Errno{api.OK, api.ErrPath, api.ErrNone, api.ErrArg} {
		if got[e] < 100 {
			t.Errorf("%d of them tell %d", got[e], int(e))
		}
	}
}

// P16.3: bytes by the document's words.
func TestPut(t *testing.T) {
	if s := puts(t, api.OK); s != "\x00\x00" {
		t.Errorf("Put of none: %q", s)
	}
	s := puts(t, api.OK, Node{"a", api.TaDir, 0o755, ""}, Node{"a/b", api.TaFile, 0o600, "xy"}, Node{"c", api.TaSymlink, 4095, "../x"})
	if s != "\x03\x00"+"\x02\xed\x01\x01a\x00\x00\x00\x00"+"\x01\x80\x01\x03a/b\x02\x00\x00\x00xy"+"\x04\xff\x0f\x01c\x04\x00\x00\x00../x" {
		t.Errorf("Put: %q", s)
	}
	puts(t, api.OK, many(400)...)
	puts(t, api.OK, file(times("p", 200), times("d", 60000)))
	puts(t, api.OK, symlink(times("p", 200), times("t", 200)))
	for _, size := range []int{0, 1, 255, 256, 257, 511, 512, 4096, 40000, 64000} {
		puts(t, api.OK, file("a", times("x", size)), file("b", times("\x00", 65000-2-18-size-400)))
	}
	for mode := range 4096 {
		puts(t, api.OK, Node{"a", api.TaDir, mode, ""})
	}
	for size := 1; size <= 200; size++ {
		puts(t, api.OK, file(times("p", size), ""), symlink("s", times("t", size)))
	}
}

// P16.3: Put of what is no tree.
func TestPutOfNoTree(t *testing.T) {
	puts(t, api.ErrArg, file("a/b", ""))
	puts(t, api.ErrArg, Node{})
	puts(t, api.ErrArg, file("b", ""), file("a", ""))
	puts(t, api.ErrArg, file("a", ""), file("a", ""))
	puts(t, api.ErrArg, Node{"a", api.TaLink, 0, "b"})
	puts(t, api.ErrMany, many(401)...)
	puts(t, api.ErrMany, make([]Node, 500)...)
	// Ahead of too many bytes.
	puts(t, api.ErrArg, file("a", times("x", 65001)), file("a", ""))
	puts(t, api.ErrArg, file("a", times("x", 65537)))
	puts(t, api.ErrArg, file("a", times("x", 65001)), Node{"b", api.TaFile, -1, ""})
}

// P16.3: just 65000 bytes, and one more, in one node, and in many.
func TestPutTooMuch(t *testing.T) {
	for _, head := range [][]Node{nil, many(1), many(100), many(399), tree(dir("a"), file("a/b", times("x", 30000)), symlink("c", times("t", 200)))} {
		left := mostPut - len(bytesOf(append(head[:len(head):len(head)], file("z", ""))...))
		with := func(n int) []Node { return append(head[:len(head):len(head)], file("z", times("y", n))) }
		for n := left - 3; n <= left; n++ {
			puts(t, api.OK, with(n)...)
		}
		if s := puts(t, api.OK, with(left)...); len(s) != mostPut {
			t.Errorf("%d bytes", len(s))
		}
		for n := left + 1; n <= left+3; n++ {
			puts(t, api.ErrLong, with(n)...)
		}
	}
	puts(t, api.ErrLong, file("a", times("x", 65536)))
	puts(t, api.ErrLong, file("a", times("x", 65536)), file("b", times("x", 65536)))
	puts(t, api.ErrLong, file("a", times("x", 40000)), file("b", times("x", 40000)), file("c", ""))
	// What would be no tree's bytes, as they are too many, is none to Get, too.
	l := tree(file("a", times("x", mostPut-2-9+1)))
	if s := bytesOf(l...); len(s) != mostPut+1 || Check(l) != api.OK {
		t.Errorf("%d bytes", len(s))
	}
	getsNone(t, bytesOf(l...))
	getsNone(t, bytesOf(file("a", times("x", 65536))))
	getsNone(t, bytesOf(many(401)...))
}

// someTree has nodes of each kind.
func someTree() []Node {
	return tree(dir("a"), file("a-", ""), file("a/b", "xyz"), symlink("c", "../x"), Node{"d", api.TaDir, 4095, ""})
}

// P16.3: Get of what is cut off anywhere, of a byte more, and of nothing.
func TestGetCutOff(t *testing.T) {
	for _, l := range [][]Node{nil, tree(file("a", "")), someTree(), many(40)} {
		s := bytesOf(l...)
		gets(t, s, l...)
		for n := range len(s) {
			getsNone(t, s[:n])
			getsAs(t, s[n:])
		}
		for b := range 256 {
			getsNone(t, s+string([]byte{byte(b)}))
			getsNone(t, string([]byte{byte(b)})+s)
		}
		getsNone(t, s+s)
	}
	getsNone(t, "")
	getsNone(t, "\x00")
}

// gotAs is what Get tells by the document's words: of all that might be read, what is put as these bytes.
func gotAs(s string) ([]Node, api.Errno) {
	var l []Node
	b := []byte(s)
	cut := func(n int) []byte {
		if b == nil || n > len(b) {
			b = nil
			return nil
		}
		part := b[:n:n]
		b = b[n:]
		return part
	}
	number := func(n int) int {
		p := append(cut(n), make([]byte, 8)...)
		return int(binary.LittleEndian.Uint64(p[:8]))
	}
	n := number(2)
	for i := 0; i < n && b != nil; i++ {
		x := Node{Kind: number(1), Mode: number(2)}
		x.Path = string(cut(number(1)))
		x.Data = string(cut(number(4)))
		l = append(l, x)
	}
	if b == nil || len(b) > 0 {
		return nil, api.ErrForm
	}
	if again, e := puttedAs(l); e != api.OK || again != s {
		return nil, api.ErrForm
	}
	return l, api.OK
}

// getsAs fails, if Get doesn't tell what the document's words say.
func getsAs(t *testing.T, s string) api.Errno {
	t.Helper()
	want, no := gotAs(s)
	l, e := Get(s)
	if e != no || !slices.Equal(l, want) || e != api.OK && l != nil {
		t.Errorf("Get(%s) = %s, %d; want %s, %d", cut(s), shown(l), int(e), shown(want), int(no))
	}
	if e == api.OK {
		gets(t, s, want...)
	}
	return e
}

// P16.3: each byte of a text another one.
func TestGetEachByte(t *testing.T) {
	good := 0
	for _, l := range [][]Node{nil, tree(file("b", "x")), someTree()} {
		s := bytesOf(l...)
		for at := range len(s) {
			for b := range 256 {
				if c := string([]byte{byte(b)}); getsAs(t, s[:at]+c+s[at+1:]) == api.OK {
					good++
				}
				getsAs(t, s[:at]+string([]byte{byte(b)})+s[at:])
			}
			getsAs(t, s[:at]+s[at+1:])
		}
	}
	if good < 1000 {
		t.Errorf("only %d are trees", good)
	}
}

// P16.3: Get of nodes that are no tree.
func TestGetOfNoTree(t *testing.T) {
	for _, l := range [][]Node{
		tree(file("b", ""), file("a", "")), tree(file("a", ""), file("a", "")), tree(file("a/b", "")), tree(file("a", ""), file("a/b", "")), tree(symlink("a", "x"), file("a/b", "")), tree(dir("a"), file("a/b/c", "")), tree(file("a/b", ""), dir("a")),
		tree(file("", "")), tree(file("/a", "")), tree(file("a/", "")), tree(file("..", "")), tree(file("a\x00", "")), tree(file(times("p", 201), "")), tree(file(times("p", 255), "")),
		tree(Node{"a", 0, 0, ""}), tree(Node{"a", api.TaLink, 0, "b"}), tree(Node{"a", 5, 0, ""}), tree(Node{"a", 255, 0, ""}),
		tree(Node{"a", api.TaFile, 4096, ""}), tree(Node{"a", api.TaDir, 65535, ""}), tree(Node{"a", api.TaDir, 0, "x"}), tree(symlink("a", "")), tree(symlink("a", times("t", 201))),
	} {
		getsNone(t, bytesOf(l...))
		getsNone(t, bytesOf(append(tree(file("Z", "")), l...)...))
	}
}

// P16.3: numbers that don't fit: more, or less, than there is.
func TestGetNumbers(t *testing.T) {
	s := bytesOf(someTree()...)
	for n := range 65536 {
		if n != 5 {
			getsNone(t, string([]byte{byte(n), byte(n >> 8)})+s[2:])
		}
	}
	const ahead, behind = "\x01\x00\x01\x00\x00\x01a", "xyz"
	for _, size := range []string{"\x00\x00\x00\x00", "\x02\x00\x00\x00", "\x04\x00\x00\x00", "\x03\x01\x00\x00", "\x03\x00\x01\x00", "\x03\x00\x00\x01", "\x03\x00\x00\x80", "\xff\xff\xff\xff", "\xff\xff\xff\x7f", "\x00\x00\x00\x80"} {
		getsNone(t, ahead+size+behind)
	}
	gets(t, ahead+"\x03\x00\x00\x00"+behind, Node{"a", api.TaFile, 0, "xyz"})
	for n := range 256 {
		getsAs(t, "\x01\x00\x01\x00\x00"+string([]byte{byte(n)})+"a\x01\x01\x00\x00\x00x")
	}
	getsNone(t, "\x01\x00")
	getsNone(t, "\xff\xff")
	getsNone(t, "\xff\xff"+times("\x00", 65535*8))
}

// P16.3: bytes by chance, and bytes of trees with some changed.
func TestGetByChance(t *testing.T) {
	r := &numbers{4}
	good := 0
	for range 60000 {
		b := []byte(bytesOf(r.tree()...))
		for range r.below(3) {
			b[r.below(len(b))] = byte(r.below(256))
		}
		if getsAs(t, string(b)) == api.OK {
			good++
		}
		other := make([]byte, 2+r.below(40))
		for i := range other {
			other[i] = byte(r.below(r.below(250) + 5))
		}
		other[0], other[1] = byte(r.below(4)), 0
		getsAs(t, string(other))
	}
	if good < 15000 {
		t.Errorf("only %d are trees", good)
	}
}

// within tells whether a text stands in the memory of another one.
func within(s, of string) bool {
	if s == "" || of == "" {
		return false
	}
	at, from := uintptr(unsafe.Pointer(unsafe.StringData(s))), uintptr(unsafe.Pointer(unsafe.StringData(of)))
	return at >= from && at < from+uintptr(len(of))
}

// ownTexts fails, if nodes share a text with one of these.
func ownTexts(t *testing.T, l []Node, of ...string) {
	t.Helper()
	for _, n := range l {
		for _, s := range of {
			if within(n.Path, s) || within(n.Data, s) {
				t.Errorf("%s shares what it has with %s", shown(tree(n)), cut(s))
			}
		}
	}
}

// Rules: what is told shares nothing with what was handed in, and is the caller's own.
func TestNothingIsShared(t *testing.T) {
	l := someTree()
	x := layer(xFile("f/g", "data"), xLink("h", "f/g"), xLink("i", "a/b"), xSymlink("j", "there"), xDir("k", 1), gone(".wh.c"))
	var of []string
	for _, n := range l {
		of = append(of, n.Path, n.Data)
	}
	for _, y := range x {
		of = append(of, y.Name, y.To, y.Data)
	}
	for _, layer := range [][]entry{nil, x} {
		out, e := Apply(l, layer)
		if e != api.OK {
			t.Fatal(int(e))
		}
		ownTexts(t, out, of...)
		again, _ := Apply(l, layer)
		for i := range out {
			out[i] = Node{}
		}
		if third, _ := Apply(l, layer); !Same(again, third) || !Same(l, someTree()) {
			t.Error("what was told is still looked at")
		}
	}
	out, e := Fold(layers(layer(xFile("a/b", "data"), xFile("c", "x")), x[:2]))
	if e != api.OK {
		t.Fatal(int(e))
	}
	ownTexts(t, out, of...)
	s := bytesOf(l...)
	out, e = Get(s)
	if e != api.OK {
		t.Fatal(int(e))
	}
	ownTexts(t, out, s)
	for _, n := range l {
		got, _ := Find(l, n.Path)
		ownTexts(t, tree(got), n.Path, n.Data)
	}
}

// R2: what is asked ahead changes no answer.
func TestSameAnswers(t *testing.T) {
	l, x := someTree(), layer(xFile("a/x", "1"), gone("a/.wh..wh..opq"), gone(".wh.c"), xLink("y", "a/x"))
	want, no := appliedAs(l, x)
	for range 50 {
		if out, e := Apply(l, x); e != no || !slices.Equal(out, want) {
			t.Errorf("Apply: %s, %d", shown(out), int(e))
		}
		refuses(t, api.ErrPath, l, xFile("..", ""))
		getsNone(t, "")
		if l, e := Fold(layers(x[:1], x)); e != api.ErrNone && e != api.OK {
			t.Errorf("Fold: %s, %d", shown(l), int(e))
		}
	}
}

// R1: much that is handed in comes to an end, soon.
func TestMuch(t *testing.T) {
	long := times("a/", 1<<20)
	checks(t, api.ErrArg, file(long, ""))
	refuses(t, api.ErrLong, nil, xFile(long, ""))
	applies(t, nil, layer(xFile(times("a/../", 1<<18)+"b", "1")), file("b", "1"))
	refuses(t, api.ErrLong, tree(file("f", "")), xLink("h", long))
	getsNone(t, long)
	getsNone(t, "\x01\x00\x01\x00\x00\x01a\x00\x00\x00\x04"+times("x", 1<<26))
	// A great tree under very many layers without entries.
	full := layer(xFile("f", times("x", 65536)))
	for i := range 199 {
		full = append(full, xLink(fmt.Sprintf("l%d", i), "f"))
	}
	all := append(layers(full), make([][]entry, 1<<20)...)
	if l, e := Fold(all); e != api.OK || len(l) != 200 || Bytes(l) != 200*65536 {
		t.Errorf("Fold: %d nodes, %d", len(l), int(e))
	}
	// As many directories as 200 entries can lay, and then go through.
	var wide []entry
	for i := range 100 {
		wide = append(wide, xFile(fmt.Sprintf("%c%c%s", 'A'+i%26, 'a'+i/26, deep(99, 1)[1:]), ""), gone(".wh.a"))
	}
	if l, e := Apply(nil, wide); e != api.ErrMany || l != nil {
		t.Errorf("Apply: %d nodes, %d", len(l), int(e))
	}
}
