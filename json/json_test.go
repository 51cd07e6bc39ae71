package json

import (
	"bytes"
	stdjson "encoding/json"
	"errors"
	"fmt"
	"io"
	"math"
	"slices"
	"strings"
	"testing"
	"unicode/utf16"
	"unicode/utf8"

	"lighter/api"
)

const (
	maxText  = 65536
	maxDepth = 16
)

// numbers are mixed ones.
type numbers struct{ last uint32 }

func (r *numbers) below(n int) int {
	r.last = r.last*1664525 + 1013904223
	return int(r.last>>8) % n
}

func (r *numbers) one(l []string) string { return l[r.below(len(l))] }

func null() Value               { return Value{Kind: Null} }
func number(s string) Value     { return Value{Kind: Number, Text: s} }
func text(s string) Value       { return Value{Kind: String, Text: s} }
func list(l ...Value) Value     { return Value{Kind: List, Items: l} }
func keys(l ...string) []string { return l }
func values(l ...Value) []Value { return l }
func quoted(s string) string    { return `"` + s + `"` }
func in(s string, n int) string { return strings.Repeat("[", n) + s + strings.Repeat("]", n) }
func isBlank(c byte) bool       { return strings.IndexByte(" \t\n\r", c) >= 0 }

// object is one of a key, a value, a key, and so on.
func object(l ...any) Value {
	v := Value{Kind: Object}
	for i := 0; i < len(l); i += 2 {
		v.Keys = append(v.Keys, l[i].(string))
		v.Items = append(v.Items, l[i+1].(Value))
	}
	return v
}

// within is a value in so many lists, or, where the word says so, objects, from without on.
func within(v Value, kinds string) Value {
	for _, kind := range slices.Backward([]byte(kinds)) {
		if kind == 'o' {
			v = object("k", v)
		} else {
			v = list(v)
		}
	}
	return v
}

// equal holds values against each other, one thing after the other.
func equal(a, b Value) bool {
	if a.Kind != b.Kind || a.Text != b.Text || len(a.Items) != len(b.Items) || len(a.Keys) != len(b.Keys) {
		return false
	}
	for i := range a.Keys {
		if a.Keys[i] != b.Keys[i] {
			return false
		}
	}
	for i := range a.Items {
		if !equal(a.Items[i], b.Items[i]) {
			return false
		}
	}
	return true
}

// shown is the beginning of what a value has.
func shown(v Value) string {
	deep := 0
	var show func(v Value) string
	show = func(v Value) string {
		if deep++; deep > 20 {
			return ".."
		}
		s := fmt.Sprintf("{%d %.50q %.9q", v.Kind, v.Text, v.Keys[:min(len(v.Keys), 5)])
		for _, x := range v.Items[:min(len(v.Items), 5)] {
			s += " " + show(x)
		}
		return s + "}"
	}
	return show(v)
}

// parses fails, if a text is not read as that value.
func parses(t *testing.T, s string, want Value) {
	t.Helper()
	if v, at, e := Parse(s); !equal(v, want) || at != 0 || e != api.OK {
		t.Errorf("Parse(%.200q) = %s, %d, %d; want %s", s, shown(v), at, int(e), shown(want))
	}
}

// isWrong fails, if a text is not wrong there, by that error.
func isWrong(t *testing.T, s string, at int, want api.Errno) {
	t.Helper()
	if v, to, e := Parse(s); !equal(v, Value{}) || to != at || e != want {
		t.Errorf("Parse(%.200q) = %s, %d, %d; want %d at %d", s, shown(v), to, int(e), int(want), at)
	}
}

// machine reads a text by the document's words, byte by byte, with a stack of its own; what it tells of a byte is whether that can stand there.
type machine struct {
	text    string
	at      int
	stack   []byte            // brackets that are open
	keys    []map[string]bool // of the objects among them
	state   string            // what stands there, or is waited for
	word    string            // the rest of one
	isKey   bool              // the string that is read
	from    int               // its "
	escape  int               // the \ of the escape that is read
	digits  int               // of that, as far as they were
	unit    int               // of these
	high    int               // the \ of a high unit ahead of it; -1, if there is none
	runeEnd int               // of the rune that is read
}

// judge is where a text is wrong, by the document's words, and the error.
func judge(s string) (int, api.Errno) {
	if len(s) > maxText {
		return 0, api.ErrLong
	}
	m := &machine{text: s, state: "value", high: -1}
	for m.at = 0; m.at < len(s); m.at++ {
		if at, e := m.feed(s[m.at]); e != api.OK {
			return at, e
		}
	}
	if len(m.stack) == 0 && (m.state == "behind" || strings.Contains(" zero whole part power ", " "+m.state+" ")) {
		return 0, api.OK
	}
	return len(s), api.ErrForm
}

func (m *machine) feed(c byte) (int, api.Errno) {
	switch m.state {
	case "value", "first value":
		return m.inValue(c)
	case "key", "first key", "colon":
		return m.inObject(c)
	case "behind":
		return m.behind(c)
	case "word":
		if m.word[0] != c {
			return m.at, api.ErrForm
		}
		if m.word = m.word[1:]; m.word == "" {
			m.state = "behind"
		}
		return 0, api.OK
	case "string", "escape", "digit", "second", "second u":
		return m.inString(c)
	}
	return m.inNumber(c)
}

func (m *machine) inValue(c byte) (int, api.Errno) {
	switch {
	case isBlank(c):
	case c == ']' && m.state == "first value":
		return m.close(c)
	case c == '"':
		m.begin(false)
	case c == '[' || c == '{':
		return m.open(c)
	case c == 'n':
		m.state, m.word = "word", "ull"
	case c == 't':
		m.state, m.word = "word", "rue"
	case c == 'f':
		m.state, m.word = "word", "alse"
	case c == '-':
		m.state = "minus"
	case c == '0':
		m.state = "zero"
	case c >= '1' && c <= '9':
		m.state = "whole"
	default:
		return m.at, api.ErrForm
	}
	return 0, api.OK
}

func (m *machine) inObject(c byte) (int, api.Errno) {
	switch {
	case isBlank(c):
	case c == ':' && m.state == "colon":
		m.state = "value"
	case c == '}' && m.state == "first key":
		return m.close(c)
	case c == '"' && m.state != "colon":
		m.begin(true)
	default:
		return m.at, api.ErrForm
	}
	return 0, api.OK
}

func (m *machine) behind(c byte) (int, api.Errno) {
	m.state = "behind"
	switch {
	case isBlank(c):
	case len(m.stack) == 0:
		return m.at, api.ErrForm
	case c == ']' || c == '}':
		return m.close(c)
	case c == ',' && m.stack[len(m.stack)-1] == '[':
		m.state = "value"
	case c == ',':
		m.state = "key"
	default:
		return m.at, api.ErrForm
	}
	return 0, api.OK
}

func (m *machine) open(c byte) (int, api.Errno) {
	if len(m.stack) == maxDepth {
		return m.at, api.ErrDeep
	}
	m.stack = append(m.stack, c)
	m.keys = append(m.keys, map[string]bool{})
	m.state = map[byte]string{'[': "first value", '{': "first key"}[c]
	return 0, api.OK
}

func (m *machine) close(c byte) (int, api.Errno) {
	last := len(m.stack) - 1
	if m.stack[last] != c-2 {
		return m.at, api.ErrForm
	}
	m.stack, m.keys, m.state = m.stack[:last], m.keys[:last], "behind"
	return 0, api.OK
}

func (m *machine) inNumber(c byte) (int, api.Errno) {
	digit, isE := c >= '0' && c <= '9', c == 'e' || c == 'E'
	switch was := m.state; {
	case was == "minus" && c == '0':
		m.state = "zero"
	case was == "minus" && digit:
		m.state = "whole"
	case was == "whole" && digit, was == "part" && digit, was == "power" && digit:
	case (was == "zero" || was == "whole") && c == '.':
		m.state = "point"
	case was == "point" && digit:
		m.state = "part"
	case (was == "zero" || was == "whole" || was == "part") && isE:
		m.state = "e"
	case was == "e" && (c == '+' || c == '-'):
		m.state = "sign"
	case (was == "e" || was == "sign") && digit:
		m.state = "power"
	case was == "zero" || was == "whole" || was == "part" || was == "power":
		return m.behind(c)
	default:
		return m.at, api.ErrForm
	}
	return 0, api.OK
}

func (m *machine) begin(isKey bool) {
	m.state, m.isKey, m.from, m.high, m.runeEnd = "string", isKey, m.at, -1, 0
}

func (m *machine) inString(c byte) (int, api.Errno) {
	switch m.state {
	case "second":
		if c != '\\' {
			return m.high, api.ErrForm
		}
		m.state = "second u"
		return 0, api.OK
	case "second u":
		if c != 'u' {
			return m.high, api.ErrForm
		}
		m.state, m.digits, m.unit = "digit", 0, 0
		return 0, api.OK
	case "escape":
		switch {
		case c == 'u':
			m.state, m.digits, m.unit = "digit", 0, 0
		case strings.IndexByte(`"\/bfnrt`, c) >= 0:
			m.state = "string"
		default:
			return m.at, api.ErrForm
		}
		return 0, api.OK
	case "digit":
		n := strings.IndexByte("0123456789abcdef0123456789ABCDEF", c)
		if n < 0 {
			return m.at, api.ErrForm
		}
		m.unit = 16*m.unit + n%16
		if m.digits++; m.digits == 4 {
			return m.ofUnit()
		}
		return 0, api.OK
	}
	switch {
	case m.at < m.runeEnd:
	case c == '"':
		return m.end()
	case c == '\\':
		m.state, m.escape = "escape", m.at
	case c < 32:
		return m.at, api.ErrForm
	default:
		for m.runeEnd = m.at + 1; m.runeEnd < len(m.text) && m.text[m.runeEnd]&0xC0 == 0x80 && !utf8.ValidString(m.text[m.at:m.runeEnd]); m.runeEnd++ {
		}
		if !utf8.ValidString(m.text[m.at:m.runeEnd]) {
			return m.at, api.ErrForm
		}
	}
	return 0, api.OK
}

func (m *machine) ofUnit() (int, api.Errno) {
	isHigh, isLow := m.unit >= 0xD800 && m.unit < 0xDC00, m.unit >= 0xDC00 && m.unit < 0xE000
	switch {
	case m.high >= 0 && !isLow:
		return m.high, api.ErrForm
	case m.high < 0 && isLow:
		return m.escape, api.ErrForm
	case isHigh:
		m.state, m.high = "second", m.escape
	default:
		m.state, m.high = "string", -1
	}
	return 0, api.OK
}

func (m *machine) end() (int, api.Errno) {
	m.state = "behind"
	if m.isKey {
		m.state = "colon"
		var key string
		stdjson.Unmarshal([]byte(m.text[m.from:m.at+1]), &key)
		seen := m.keys[len(m.keys)-1]
		if seen[key] {
			return m.from, api.ErrForm
		}
		seen[key] = true
	}
	return 0, api.OK
}

// read is the value of a text that is one, by the library's words of it.
func read(t *testing.T, s string) Value {
	t.Helper()
	d := stdjson.NewDecoder(strings.NewReader(s))
	d.UseNumber()
	v := readNext(t, d)
	if _, err := d.Token(); err != io.EOF {
		t.Fatalf("%.200q: %v", s, err)
	}
	return v
}

func readNext(t *testing.T, d *stdjson.Decoder) Value {
	t.Helper()
	token, err := d.Token()
	if err != nil {
		t.Fatal(err)
	}
	var v Value
	switch x := token.(type) {
	case nil:
	case bool:
		v.Kind = map[bool]int{false: False, true: True}[x]
	case stdjson.Number:
		v = number(string(x))
	case string:
		v = text(x)
	case stdjson.Delim:
		v.Kind = map[stdjson.Delim]int{'[': List, '{': Object}[x]
		for d.More() {
			if v.Kind == Object {
				v.Keys = append(v.Keys, readNext(t, d).Text)
			}
			v.Items = append(v.Items, readNext(t, d))
		}
		d.Token()
	}
	return v
}

// holds fails, if a text is not read as the machine and the library do.
func holds(t *testing.T, s string) {
	t.Helper()
	if at, e := judge(s); e != api.OK {
		isWrong(t, s, at, e)
	} else {
		parses(t, s, read(t, s))
	}
}

// written is a value's text, by the document's words.
func written(v Value) string {
	switch v.Kind {
	case Null, False, True:
		return []string{"null", "false", "true"}[v.Kind]
	case Number:
		return v.Text
	case String:
		return writtenText(v.Text)
	}
	var l []string
	for i, x := range v.Items {
		if v.Kind == Object {
			l = append(l, writtenText(v.Keys[i])+":"+written(x))
		} else {
			l = append(l, written(x))
		}
	}
	s := strings.Join(l, ",")
	if v.Kind == Object {
		return "{" + s + "}"
	}
	return "[" + s + "]"
}

func writtenText(s string) string {
	var b bytes.Buffer
	for _, r := range []rune(s) {
		switch {
		case r == '"':
			b.WriteString("\\\"")
		case r == '\\':
			b.WriteString("\\\\")
		case r == 8:
			b.WriteString("\\b")
		case r == 9:
			b.WriteString("\\t")
		case r == 10:
			b.WriteString("\\n")
		case r == 12:
			b.WriteString("\\f")
		case r == 13:
			b.WriteString("\\r")
		case r < 32:
			fmt.Fprintf(&b, "\\u%04x", r)
		default:
			b.WriteRune(r)
		}
	}
	return quoted(b.String())
}

// prints fails, if a value's text is another one.
func prints(t *testing.T, v Value, want string) {
	t.Helper()
	if s, e := Print(v); s != want || e != api.OK {
		t.Errorf("Print(%s) = %.200q, %d; want %.200q", shown(v), s, int(e), want)
	}
}

// isNotPrinted fails, if a value is printed, or by another error not.
func isNotPrinted(t *testing.T, v Value, want api.Errno) {
	t.Helper()
	if s, e := Print(v); s != "" || e != want {
		t.Errorf("Print(%s) = %.200q, %d; want %d", shown(v), s, int(e), int(want))
	}
}

// samples are values that may be, of all kinds.
func samples() []Value {
	l := []Value{null(), {Kind: False}, {Kind: True}, list(), object(), list(null()), list(list(), object()), object("", null())}
	for _, s := range []string{"0", "-0", "7", "-7", "10", "0.5", "-2.5e3", "1E-07", "9007199254740993", "123456789012345678901234567890", "1e+400"} {
		l = append(l, number(s))
	}
	for _, s := range []string{"", "a", "\x00", "\x1f\x7f", "\"\\/", "\b\f\n\r\t", "é", "\u07ff\u0800\uffff", "\U00010000\U0010ffff", "\ufffd", "\ud7ff\ue000", "null", "a\"b\\c"} {
		l = append(l, text(s), object(s, text(s)))
	}
	l = append(l, object("a", number("5"), "b", text("x"), "c", list(number("1"), object("a", list()))), list(l...))
	return append(l, within(null(), "lolololololololo"), within(list(), strings.Repeat("o", 15)), object("k", null(), "K", null(), "k ", null(), "\x00", null()))
}

// mixed is a value that may be, by chance, at most so deep.
func mixed(r *numbers, deep int) Value {
	kind := r.below(7)
	if deep == 0 {
		kind = r.below(5)
	}
	v := Value{Kind: kind}
	switch kind {
	case Number:
		v.Text = r.one([]string{"", "-"}) + r.one([]string{"0", "7", "10", "9007199254740992", "123456789012345678901"}) + r.one([]string{"", "", ".0", ".500"}) + r.one([]string{"", "", "e1", "E-07", "e+00"})
	case String:
		v.Text = mixedText(r)
	case List, Object:
		for range r.below(4) {
			v.Items = append(v.Items, mixed(r, deep-1))
			if kind == Object {
				v.Keys = append(v.Keys, mixedText(r)+strings.Repeat("~", len(v.Keys))+fmt.Sprint(len(v.Keys)))
			}
		}
	}
	return v
}

func mixedText(r *numbers) string {
	var s string
	for range r.below(5) {
		s += string([]rune{'a', 'u', '"', '\\', '/', 0, 1, 8, 9, 10, 11, 12, 13, 31, 32, 127, 0x80, 0x7FF, 0x800, 0xD7FF, 0xE000, 0xFFFD, 0xFFFF, 0x10000, 0x10FFFF}[r.below(25)])
	}
	return s
}

// loose is a text of a value with blanks and escapes by chance, and the text without blanks.
func loose(r *numbers, v Value) (string, string) {
	blank := func() string {
		return r.one([]string{"", "", "", " ", "\t", "\n", "\r", " \r\n\t "})
	}
	var with func(v Value) string
	var l []string // what stands beside blanks
	put := func(s string) string {
		l = append(l, s)
		return blank() + s + blank()
	}
	with = func(v Value) string {
		switch v.Kind {
		case String:
			return put(looseText(r, v.Text))
		case List, Object:
			s := put(written(Value{Kind: v.Kind})[:1])
			for i, x := range v.Items {
				if i > 0 {
					s += put(",")
				}
				if v.Kind == Object {
					s += put(looseText(r, v.Keys[i])) + put(":")
				}
				s += with(x)
			}
			return s + put(written(Value{Kind: v.Kind})[1:])
		}
		return put(written(v))
	}
	s := with(v)
	return s, strings.Join(l, "")
}

func looseText(r *numbers, s string) string {
	var l []string
	for _, c := range s {
		one := writtenText(string(c))
		one = one[1 : len(one)-1]
		switch r.below(4) {
		case 0:
			one = ""
			for _, u := range utf16.Encode([]rune{c}) {
				one += fmt.Sprintf("\\u%04x", u)
			}
		case 1:
			one = ""
			for _, u := range utf16.Encode([]rune{c}) {
				one += fmt.Sprintf("\\u%04X", u)
			}
		case 2:
			if c == '/' {
				one = "\\/"
			}
		}
		l = append(l, one)
	}
	return quoted(strings.Join(l, ""))
}

// P11.1 to P11.3: the document's examples.
func TestExamples(t *testing.T) {
	parses(t, "[1, -2.5e3]", list(number("1"), number("-2.5e3")))
	isWrong(t, "01", 1, api.ErrForm)
	isWrong(t, "[1,]", 3, api.ErrForm)
	isWrong(t, `"a`, 2, api.ErrForm)
	prints(t, text("\"\n\x01"), `"\"\n\u0001"`)
	if n, ok := Int(number("1e3")); n != 0 || ok {
		t.Errorf("Int of 1e3 = %d, %v", n, ok)
	}
	if n, ok := Int(number("-7")); n != -7 || !ok {
		t.Errorf("Int of -7 = %d, %v", n, ok)
	}
}

// P11.1: each kind, alone and in others.
func TestParseKinds(t *testing.T) {
	for s, want := range map[string]Value{
		"null":               null(),
		"false":              {Kind: False},
		"true":               {Kind: True},
		"5":                  number("5"),
		`"5"`:                text("5"),
		`""`:                 text(""),
		"[]":                 list(),
		"{}":                 object(),
		"[null,true]":        list(null(), Value{Kind: True}),
		"[[],[[]],{}]":       list(list(), list(list()), object()),
		`{"a":1}`:            object("a", number("1")),
		`{"b":1,"a":2,"":3}`: object("b", number("1"), "a", number("2"), "", number("3")),
		`{"a":{"a":{"a":[]}},"b":{"a":[{"a":1},{"a":2}]}}`: object("a", object("a", object("a", list())), "b", object("a", list(object("a", number("1")), object("a", number("2"))))),
		`["[","]","{","}",",",":"]`:                        list(text("["), text("]"), text("{"), text("}"), text(","), text(":")),
	} {
		parses(t, s, want)
		parses(t, "["+s+"]", list(want))
		parses(t, "["+s+","+s+"]", list(want, want))
		parses(t, `{"k":`+s+`,"l":`+s+"}", object("k", want, "l", want))
	}
}

// P11.1: texts of 65535, 65536 and 65537 bytes, and of more.
func TestParseSizes(t *testing.T) {
	for _, size := range []int{65535, 65536, 65537, 1 << 20} {
		long := strings.Repeat("a", size-2)
		digits := strings.Repeat("7", size)
		nulls := "[" + strings.Repeat("null,", size/5-2) + "null]"
		for s, want := range map[string]Value{
			quoted(long):                          text(long),
			digits:                                number(digits),
			strings.Repeat(" ", size-4) + "null":  null(),
			"null" + strings.Repeat("\n", size-4): null(),
			nulls + strings.Repeat("\t", size-len(nulls)): list(make([]Value, size/5-1)...),
			`{"` + long[:size-7] + `":1}`:                 object(long[:size-7], number("1")),
			`"\u0041` + long[:size-8] + `"`:               text("A" + long[:size-8]),
			quoted(strings.Repeat("é", size/2-1)):         text(strings.Repeat("é", size/2-1)),
			`["` + long[:size-5] + `"` + `]` + " ":        list(text(long[:size-5])),
		} {
			if size > maxText && len(s) > maxText {
				isWrong(t, s, 0, api.ErrLong)
				isWrong(t, s[:len(s)-1]+"\xff", 0, api.ErrLong)
			} else {
				parses(t, s, want)
			}
		}
		for _, s := range []string{strings.Repeat(" ", size), strings.Repeat("[", size), strings.Repeat("\xff", size), strings.Repeat("-", size)} {
			holds(t, s)
			if _, _, e := Parse(s); (e == api.ErrLong) != (size > maxText) {
				t.Errorf("Parse of %d bytes: %d", size, int(e))
			}
		}
	}
	isWrong(t, quoted(strings.Repeat("a", 65535-1))[:65535], 65535, api.ErrForm)
	isWrong(t, strings.Repeat(" ", 65536), 65536, api.ErrForm)
}

// P11.1: blanks ahead of a value, behind it, and between all parts; and bytes that are none.
func TestParseBlanks(t *testing.T) {
	parts := []string{"{", `"a"`, ":", "[", "1", ",", "null", ",", "[", "]", ",", "{", "}", ",", `"x y"`, "]", ",", `"b"`, ":", "-0.5e+1", "}"}
	want := object("a", list(number("1"), null(), list(), object(), text("x y")), "b", number("-0.5e+1"))
	for _, blank := range []string{" ", "\t", "\n", "\r", " \t\n\r", "\r\n\r\n  ", strings.Repeat(" ", 1000)} {
		parses(t, blank+strings.Join(parts, blank)+blank, want)
		for i := range len(parts) + 1 {
			parses(t, strings.Join(parts[:i], "")+blank+strings.Join(parts[i:], ""), want)
		}
		for _, one := range []string{"null", "true", "false", "0", "-1e5", `"a"`, "[]", "{}"} {
			v := read(t, one)
			parses(t, blank+one, v)
			parses(t, one+blank, v)
			parses(t, blank+one+blank, v)
		}
	}
	for c := range 256 {
		if isBlank(byte(c)) {
			continue
		}
		for i := range len(parts) + 1 {
			holds(t, strings.Join(parts[:i], "")+string([]byte{byte(c)})+strings.Join(parts[i:], ""))
		}
	}
	for _, none := range []string{"\x00", "\v", "\f", "\x1c", "\x1f", "\x7f", "\x85", "\xa0", "\u0085", "\u00a0", "\u2028", "\u3000", "\ufeff", "/", "#", "\\", "\\n"} {
		isWrong(t, none+"1", 0, api.ErrForm)
		isWrong(t, "1"+none, 1, api.ErrForm)
		isWrong(t, "["+none+"]", 1, api.ErrForm)
		isWrong(t, "[1 "+none+",2]", 3, api.ErrForm)
		isWrong(t, "[1,\n"+none+"2]", 4, api.ErrForm)
		isWrong(t, `{"a"`+none+`:1}`, 4, api.ErrForm)
		isWrong(t, `{"a":`+none+`1}`, 5, api.ErrForm)
		isWrong(t, `{"a":1,`+none+`"b":1}`, 7, api.ErrForm)
		isWrong(t, none, 0, api.ErrForm)
	}
	for s, at := range map[string]int{"n ull": 1, "nul l": 3, "- 1": 1, "1 .5": 2, "1. 5": 2, "1 e5": 2, "1e 5": 2, "1e+ 5": 3, "1 0": 2, "tr\nue": 2, "\"\\ n\"": 2, "\"\\u 0041\"": 3, "\"\\u00 41\"": 5, "\"a\" \"b\"": 4} {
		isWrong(t, s, at, api.ErrForm)
	}
}

// P11.1: words, each cut off, and each with another byte at each place.
func TestParseWords(t *testing.T) {
	for kind, word := range []string{"null", "false", "true"} {
		parses(t, word, Value{Kind: kind})
		for i := range len(word) {
			isWrong(t, word[:i], i, api.ErrForm)
			isWrong(t, "[1,"+word[:i]+"]", i+3, api.ErrForm)
			for c := range 256 {
				holds(t, word[:i]+string([]byte{byte(c)})+word[i+1:])
				holds(t, word[:i]+string([]byte{byte(c)})+word[i:])
			}
			if i > 0 {
				isWrong(t, word[:i]+strings.ToUpper(word[i:i+1])+word[i+1:], i, api.ErrForm)
			}
		}
		isWrong(t, word+word, len(word), api.ErrForm)
		isWrong(t, word+"x", len(word), api.ErrForm)
		isWrong(t, word+" x", len(word)+1, api.ErrForm)
		isWrong(t, strings.ToUpper(word), 0, api.ErrForm)
	}
}

// P11.1: numbers, at the end of the text and with another byte behind.
func TestParseNumbers(t *testing.T) {
	good := []string{"0", "-0", "7", "-7", "10", "1234567890", "0.0", "-0.0", "0.5", "1.50", "-2.5e3", "1E-07", "1e5", "1E5", "1e+5", "1e-5", "0e0", "0E+00", "-0.1e-0099", "9007199254740993", "1e400", strings.Repeat("9", 400), "0." + strings.Repeat("0", 400)}
	for _, s := range good {
		parses(t, s, number(s))
		parses(t, "["+s+"]", list(number(s)))
		parses(t, "["+s+","+s+"]", list(number(s), number(s)))
		parses(t, `{"a":`+s+`}`, object("a", number(s)))
		parses(t, s+"\n", number(s))
		for c := range 256 {
			holds(t, s+string([]byte{byte(c)}))
		}
	}
	for s, at := range map[string]int{
		"01": 1, "00": 1, "-01": 2, "-00": 2, "0x1": 1, "1x": 1, "-": 1, "--1": 1, "-a": 1, "+1": 0, "-+1": 1, ".5": 0, "-.5": 1,
		"1.": 2, "1.e": 2, "1.e5": 2, "1.a": 2, "1..5": 2, "1.5.5": 3, "0.": 2, "-0.": 3, "1.-5": 2, "1.+5": 2,
		"1e": 2, "1E": 2, "1e+": 3, "1e-": 3, "1ee": 2, "1e+-1": 3, "1e--1": 3, "1e5.5": 3, "1e5e5": 3, "1ex": 2, "1e.5": 2, "e5": 0, "-e5": 1,
		"1,": 1, "1,2": 1, "1]": 1, "1 2": 2, "1_000": 1, "1\x00": 1, "Infinity": 0, "-Infinity": 1, "NaN": 0, "0b1": 1, "1f": 1, "٣": 0, "1٣": 1, "1\"": 1, "0-1": 1, "1-": 1, "1+1": 1,
	} {
		isWrong(t, s, at, api.ErrForm)
		if s[len(s)-1] != ',' && s != "1,2" && s != "1]" {
			isWrong(t, "["+s+"]", at+1, api.ErrForm)
			isWrong(t, `{"a":`+s+`}`, at+5, api.ErrForm)
		}
	}
	each(t, "0 1 9 - + . e E", 6)
}

// each holds all texts of up to so many of these parts.
func each(t *testing.T, parts string, most int) {
	t.Helper()
	l := strings.Split(parts, " ")
	texts := []string{""}
	for range most {
		var longer []string
		for _, s := range texts {
			for _, part := range l {
				longer = append(longer, s+part)
			}
		}
		for _, s := range longer {
			holds(t, s)
		}
		texts = longer
	}
}

// P11.1: escapes of one letter, and others that are none.
func TestParseEscapes(t *testing.T) {
	meant := map[byte]string{'"': "\"", '\\': "\\", '/': "/", 'b': "\b", 'f': "\f", 'n': "\n", 'r': "\r", 't': "\t"}
	for c := range 256 {
		s := "\\" + string([]byte{byte(c)})
		if want, ok := meant[byte(c)]; ok {
			parses(t, quoted(s), text(want))
			parses(t, quoted("a"+s+"b"+s), text("a"+want+"b"+want))
			parses(t, "{"+quoted(s)+":1}", object(want, number("1")))
			continue
		}
		at := 2
		if c == 'u' {
			at = 3
		}
		isWrong(t, quoted(s), at, api.ErrForm)
		isWrong(t, quoted("é"+s), at+2, api.ErrForm)
		isWrong(t, "{"+quoted(s)+":1}", at+1, api.ErrForm)
	}
	isWrong(t, `"\`, 2, api.ErrForm)
	isWrong(t, `"\\\`, 4, api.ErrForm)
	isWrong(t, `"\"`, 3, api.ErrForm)
	parses(t, `"\\"`, text(`\`))
	parses(t, `"\\u0041"`, text(`\u0041`))
	parses(t, `"\\\u0041"`, text(`\A`))
	isWrong(t, `"\\""`, 4, api.ErrForm)
	isWrong(t, `"\é"`, 2, api.ErrForm)
	isWrong(t, `"\x41"`, 2, api.ErrForm)
	isWrong(t, `"\U0041"`, 2, api.ErrForm)
	isWrong(t, `"\N"`, 2, api.ErrForm)
	isWrong(t, `"\'"`, 2, api.ErrForm)
	isWrong(t, `"\0"`, 2, api.ErrForm)
}

// P11.1: each unit alone, in small and great letters, and with each letter that is no digit.
func TestParseUnits(t *testing.T) {
	for n := range 1 << 16 {
		for _, form := range []string{"a\\u%04xz", "a\\u%04Xz"} {
			s := quoted(fmt.Sprintf(form, n))
			if utf16.IsSurrogate(rune(n)) {
				isWrong(t, s, 2, api.ErrForm)
			} else {
				parses(t, s, text("a"+string(rune(n))+"z"))
			}
		}
	}
	parses(t, `"\u0000"`, text("\x00"))
	parses(t, `"\u001f\u007F\u00e9\uFfFd"`, text("\x1f\x7fé\ufffd"))
	parses(t, `"\u00e9\u00E9\u0022\u005c\u002F"`, text("éé\"\\/"))
	parses(t, `"\u00411"`, text("A1"))
	for digits := range 4 {
		for c := range 256 {
			bad := string([]byte{byte(c)})
			holds(t, quoted(`\u`+"00e9"[:digits]+bad+"00e9"[digits+1:]))
			holds(t, quoted(`\ud83d\u`+"de00"[:digits]+bad+"de00"[digits+1:]))
		}
		for _, bad := range []string{"g", "G", "x", "-", "+", " ", "_", "\"", "\\", "\x00", "\x10", "\x19", "@", "`", "/", ":", "é", "\xff", "٣"} {
			isWrong(t, `"\u`+"00e9"[:digits]+bad+`00e9"`, 3+digits, api.ErrForm)
			isWrong(t, `"\ud83d\u`+"de00"[:digits]+bad+`00e9"`, 9+digits, api.ErrForm)
		}
		isWrong(t, `"\u`+"00e9"[:digits], 3+digits, api.ErrForm)
		isWrong(t, `"\ud83d\u`+"de00"[:digits], 9+digits, api.ErrForm)
		isWrong(t, `{"\ud83d\u`+"de00"[:digits]+`":1}`, 10+digits, api.ErrForm)
	}
	isWrong(t, `"\u00e9`, 7, api.ErrForm)
}

// P11.1: pairs of units, and each of both without the other.
func TestParsePairs(t *testing.T) {
	for high := 0xD800; high < 0xDC00; high++ {
		for low := 0xDC00; low < 0xE000; low += 1 + (high+low)%97 {
			parses(t, quoted(fmt.Sprintf("\\u%04x\\u%04X", high, low)), text(string(utf16.DecodeRune(rune(high), rune(low)))))
		}
	}
	for _, pair := range []struct {
		s string
		r rune
	}{{`\ud800\udc00`, 0x10000}, {`\ud800\udfff`, 0x103FF}, {`\ud801\udc00`, 0x10400}, {`\uDBFF\uDC00`, 0x10FC00}, {`\udbff\udfff`, 0x10FFFF}, {`\ud83D\uDe00`, 0x1F600}} {
		parses(t, quoted(pair.s), text(string(pair.r)))
		parses(t, quoted(pair.s+pair.s+"x"), text(string(pair.r)+string(pair.r)+"x"))
		isWrong(t, quoted(pair.s+pair.s[6:]), 13, api.ErrForm)
		isWrong(t, quoted(pair.s+pair.s[:6]), 13, api.ErrForm)
	}
	for n := range 1 << 16 {
		s := fmt.Sprintf("\"\\udbff\\u%04x\"", n)
		if n >= 0xDC00 && n <= 0xDFFF {
			parses(t, s, text(string(rune(0x10FC00+n-0xDC00))))
		} else {
			isWrong(t, s, 1, api.ErrForm)
		}
	}
	for s, at := range map[string]int{
		`"\udc00"`: 1, `"\udfff`: 1, `"\uDFFF`: 1, `"ab\udc00\ud800"`: 3, `"\udc00\udc00"`: 1, `"\udc0`: 6, `"\udc0"`: 6, `"\n\udc00"`: 3, `"\u0041\udc00"`: 7, `"é\udc00"`: 3,
		`"\ud800`: 7, `"\ud800\`: 8, `"\ud800\u`: 9, `"\ud800\u1`: 10, `"\ud800\u12`: 11, `"\ud800\u123`: 12, `"\ud800\u1234`: 1, `"\ud800\udc00`: 13,
		`"\ud800"`: 1, `"\ud800a"`: 1, `"\ud800a`: 1, `"\ud800é"`: 1, "\"\\ud800\xff\"": 1, "\"\\ud800\x00": 1, "\"\\ud800\n\"": 1, `"\ud800 \udc00"`: 1,
		`"\ud800\n"`: 1, `"\ud800\n`: 1, `"\ud800\\udc00"`: 1, `"\ud800\"`: 1, `"\ud800\"\udc00"`: 1, `"\ud800\U`: 1, "\"\\ud800\\\xff": 1, `"\ud800\ud800"`: 1, `"\ud800\ud800\udc00"`: 1, `"\udbff\ue000"`: 1, `"\udbff\udbff`: 1,
		`"\ud800\ud80"`: 12, `"\ud800\ud8x0"`: 11, `"\ud800\u"`: 9, `"\ud800\u\`: 9, `"\ud800\ug`: 9, "\"\\ud800\\u\xff": 9, "\"\\ud800\\ud\xff": 10,
		`"a\ud800b"`: 2, `"\\\ud800"`: 3, `{"\ud800":1}`: 2, `{"\udc00":1}`: 2, `["\ud800`: 8, `["x",{"a\ud800\"":1}]`: 8, `"\ud800\udc00\ud800"`: 13, `"\ud800\udc00\udc00"`: 13, `"\ud7ff\udc00"`: 7, `"\ue000\udc00"`: 7,
	} {
		isWrong(t, s, at, api.ErrForm)
		holds(t, s)
	}
}

// P11.1: each rune as it is.
func TestParseRunes(t *testing.T) {
	for r := rune(0); r <= utf8.MaxRune; r++ {
		if utf16.IsSurrogate(r) {
			s := string([]byte{0xE0 | byte(r>>12), 0x80 | byte(r>>6)&0x3F, 0x80 | byte(r)&0x3F})
			isWrong(t, `"a`+s+`"`, 2, api.ErrForm)
			continue
		}
		s := string(r)
		switch {
		case r < 32:
			isWrong(t, `"a`+s+`"`, 2, api.ErrForm)
		case r == '"':
			isWrong(t, `"a`+s+`"`, 3, api.ErrForm)
		case r == '\\':
			isWrong(t, `"a`+s+`"`, 4, api.ErrForm)
		default:
			v, at, e := Parse(`"a` + s + `z"`)
			if v.Kind != String || v.Text != "a"+s+"z" || at != 0 || e != api.OK {
				t.Errorf("rune %x: %v, %d, %d", r, v, at, int(e))
			}
		}
	}
	for n := range 32 {
		c := string([]byte{byte(n)})
		isWrong(t, quoted(c), 1, api.ErrForm)
		isWrong(t, `"`+c, 1, api.ErrForm)
		isWrong(t, quoted("é"+c), 3, api.ErrForm)
		isWrong(t, `{"a`+c+`":1}`, 3, api.ErrForm)
		isWrong(t, `["\n`+c+`"]`, 4, api.ErrForm)
	}
	parses(t, "\"\x7f\"", text("\x7f"))
	parses(t, "{\"\x7f\":\"\ufeff\"}", object("\x7f", text("\ufeff")))
}

// P11.1: bytes that are no rune, at the beginning, in the middle, and where the end cuts them off.
func TestParseNoRunes(t *testing.T) {
	none := []string{
		"\x80", "\xbf", "\xc0", "\xc0\x80", "\xc0\xaf", "\xc1", "\xc1\xbf", "\xc2", "\xdf", "\xc2\xc2", "\xe0", "\xe0\x80\x80", "\xe0\x9f\xbf", "\xe0\xa0", "\xe2", "\xe2\x82", "\xe2\x28\xa1", "\xe2\x82\x28",
		"\xed\xa0\x80", "\xed\xaf\xbf", "\xed\xb0\x80", "\xed\xbf\xbf", "\xed\xa0\xbd\xed\xb8\x80", "\xef\xbf", "\xf0", "\xf0\x80\x80\x80", "\xf0\x8f\xbf\xbf", "\xf0\x90", "\xf0\x90\x80", "\xf0\x9f\x98", "\xf0\x28\x8c\xbc", "\xf0\x90\x28\xbc", "\xf0\x90\x80\x28",
		"\xf4\x90\x80\x80", "\xf4\x8f\xbf", "\xf5", "\xf5\x80\x80\x80", "\xf8", "\xf8\x88\x80\x80\x80", "\xfc\x84\x80\x80\x80\x80", "\xfe", "\xff", "\xff\xfe",
	}
	for _, s := range none {
		isWrong(t, quoted(s), 1, api.ErrForm)
		isWrong(t, `"`+s, 1, api.ErrForm)
		isWrong(t, quoted(s+"a"), 1, api.ErrForm)
		isWrong(t, quoted("ab"+s+"c"), 3, api.ErrForm)
		isWrong(t, quoted("ab"+s), 3, api.ErrForm)
		isWrong(t, quoted("é\U0010ffff\ufffd"+s+"é"), 10, api.ErrForm)
		isWrong(t, quoted(`\n`+s), 3, api.ErrForm)
		isWrong(t, quoted(`\u0041`+s), 7, api.ErrForm)
		isWrong(t, quoted(`\`+s), 2, api.ErrForm)
		isWrong(t, quoted(`\u`+s), 3, api.ErrForm)
		isWrong(t, `{"`+s+`":1}`, 2, api.ErrForm)
		isWrong(t, `{"a":1,"`+s+`":1}`, 8, api.ErrForm)
		for _, ahead := range []string{"", "[", "[1", "[1,", "nul", "[1] "} {
			isWrong(t, ahead+s, len(ahead), api.ErrForm)
		}
	}
	for a := range 256 {
		for b := range 256 {
			holds(t, quoted(string([]byte{byte(a), byte(b)})))
			for _, c := range []byte{0x7F, 0x80, 0x8F, 0x90, 0x9F, 0xA0, 0xBF, 0xC0} {
				if a >= 0xE0 {
					holds(t, quoted(string([]byte{byte(a), byte(b), c})))
					holds(t, quoted(string([]byte{byte(a), byte(b), c, 0x80})))
					holds(t, `"`+string([]byte{byte(a), byte(b), c}))
				}
			}
		}
	}
}

// P11.1: lists and objects with none, one and several parts, and what may be wrong with them.
func TestParseBrackets(t *testing.T) {
	for s, at := range map[string]int{
		"": 0, " ": 1, "\r\n": 2, "]": 0, "}": 0, ",": 0, ":": 0,
		"[": 1, "[ ": 2, "[1": 2, "[1 ": 3, "[1,": 3, "[1, ": 4, "[1,2": 4, "[[": 2, "[[]": 3, "[]]": 2, "[] ]": 3, "[}": 1, "[1}": 2, "[1,}": 3, "[,]": 1, "[,1]": 1, "[1,]": 3, "[1 , ]": 5, "[1,,2]": 3, "[1 2]": 3, "[1[": 2, "[1\"a\"]": 2, "[[]1]": 3, "[]1": 2, "[][]": 2, "[],": 2, "[:]": 1, "[1:2]": 2, "[\"a\":1]": 4, "[1;2]": 2, "[1)": 2,
		"{": 1, "{ ": 2, "{]": 1, "{,}": 1, "{:1}": 1, "{1:1}": 1, "{1": 1, "{a:1}": 1, "{null:1}": 1, "{[]:1}": 1, "{{}:1}": 1, "{'a':1}": 1,
		`{"`: 2, `{"a`: 3, `{"a"`: 4, `{"a" `: 5, `{"a"}`: 4, `{"a",`: 4, `{"a" 1}`: 5, `{"a"1`: 4, `{"a"::1}`: 5, `{"a"=1}`: 4, `{"a":`: 5, `{"a": `: 6, `{"a":}`: 5, `{"a":,`: 5, `{"a":]`: 5,
		`{"a":1`: 6, `{"a":1 `: 7, `{"a":1]`: 6, `{"a":1:`: 6, `{"a":1,`: 7, `{"a":1,}`: 7, `{"a":1,,`: 7, `{"a":1,1`: 7, `{"a":1 "b":2}`: 7, `{"a":1,"b"`: 10, `{"a":1,"b"}`: 10, `{"a":1,"b":`: 11, `{"a":1,]`: 7, `{"a":1,null:1}`: 7, `{"a":1}}`: 7, `{"a":1},`: 7, "{}x": 2, "{}{}": 2, "{} {": 3,
		"1 [": 2, "null,": 4, `"a""b"`: 3, `"a" 1`: 4, "[1]1": 3, "{}1": 2, "1true": 1, "true1": 4,
		`[{"a":[}`: 7, `[{"a":[]]`: 8, `[{"a":[1,{"b":2}`: 16, `{"a":[1,{"b":2]`: 14,
	} {
		isWrong(t, s, at, api.ErrForm)
		holds(t, s)
	}
	for n := range 40 {
		nulls := strings.TrimSuffix(strings.Repeat("null,", n), ",")
		parses(t, "["+nulls+"]", list(make([]Value, n)...))
		isWrong(t, "["+nulls+",]", len(nulls)+1+min(n, 1), api.ErrForm)
		var s string
		want := object()
		for k := range n {
			key := fmt.Sprintf("k%d", n-k)
			s += fmt.Sprintf("%q:[%d],", key, k)
			want.Keys = append(want.Keys, key)
			want.Items = append(want.Items, list(number(fmt.Sprint(k))))
		}
		s = strings.TrimSuffix(s, ",")
		parses(t, "{"+s+"}", want)
		isWrong(t, "{"+s+",}", len(s)+1+min(n, 1), api.ErrForm)
	}
}

// P11.1: an object with a key twice.
func TestParseTwice(t *testing.T) {
	for s, at := range map[string]int{
		`{"a":1,"a":2}`: 7, `{"a":1,"a":1}`: 7, `{"":1,"":2}`: 6, `{"a":1, "a" :2}`: 8, `{"a":1,"b":2,"a":3}`: 13, `{"a":1,"b":2,"b":3}`: 13,
		`{"a":1,"\u0061":2}`: 7, `{"\u0061":1,"a":2}`: 12, `{"\u0061":1,"\u0061":2}`: 12, `{"é":1,"\u00e9":2}`: 8, `{"\u00E9":1,"\u00e9":2}`: 12, `{"/":1,"\/":2}`: 7, `{"\n":1,"\u000a":2}`: 8, `{"\ud83d\ude00":1,"😀":2}`: 18, `{"😀":1,"\ud83d\ude00":2}`: 10,
		`{"a":1,"a"`: 7, `{"a":1,"a"x`: 7, `{"a":1,"a":`: 7, `{"a":1,"a":]`: 7, `{"a":1,"a":[[[[[[[[[[[[[[[[[[[`: 7, `{"a":1,"a"` + "\xff": 7,
		`{"a":1,"a`: 9, `{"a":1,"a\`: 10, `{"a":1,"a` + "\n": 9, `{"a":1,"a` + "\xff\"": 9, `{"a":1,"a\ud800"`: 9,
		`[{"a":1},{"b":1,"b":2}]`: 16, `{"x":{"a":1,"a":2},"x":1}`: 12, `{"x":{"a":1},"x":{"a":2}}`: 13, `{"a":{"a":{"a":1,"a":1}}}`: 17, `{"a":[{"a":1}],"a":2}`: 15,
	} {
		isWrong(t, s, at, api.ErrForm)
		holds(t, s)
	}
	for _, s := range []string{`{"a":1,"A":2}`, `{"a":1,"a ":2}`, `{"a":{"a":{"a":1}},"b":{"a":1,"b":2}}`, `[{"a":1},{"a":1}]`, `{"a":"a"}`, `{"":1,"\u0000":2}`, `{"a":1,"\\u0061":2}`, `{"x":{"y":1},"y":{"x":1}}`, `{"é":1,"e\u0301":2}`} {
		holds(t, s)
		if _, _, e := Parse(s); e != api.OK {
			t.Errorf("Parse(%q): %d", s, int(e))
		}
	}
	var b strings.Builder
	for k := range 7000 {
		fmt.Fprintf(&b, `"%x":1,`, k)
	}
	parses(t, "{"+b.String()+`"x":1}`, read(t, "{"+b.String()+`"x":1}`))
	isWrong(t, "{"+b.String()+`"1b57":1}`, b.Len()+1, api.ErrForm)
	isWrong(t, "{"+b.String()+`"0":1}`, b.Len()+1, api.ErrForm)
}

// P11.1: depths 15, 16 and 17, and faults ahead of a bracket that is too deep, and behind.
func TestParseDeep(t *testing.T) {
	for _, kinds := range []string{"l", "o", "lo", "ol", "llo", "ool"} {
		kinds = strings.Repeat(kinds, 20)
		for n := range 20 {
			for _, inner := range []Value{null(), number("1"), text("[{"), list(), object()} {
				v := within(inner, kinds[:n])
				s := written(v)
				deep := n
				if inner.Kind >= List {
					deep++
				}
				if deep <= 16 {
					parses(t, s, v)
					parses(t, "\n"+strings.ReplaceAll(s, ":", " : ")+" ", v)
					continue
				}
				at := len(written(within(null(), kinds[:16]))) - 4 - 16 // the brackets behind it
				isWrong(t, s, at, api.ErrDeep)
				isWrong(t, s[:at+1], at, api.ErrDeep)
				isWrong(t, s[:at]+"\t"+s[at:], at+1, api.ErrDeep)
				isWrong(t, s[:at]+"x"+s[at+1:], at, api.ErrForm)
				isWrong(t, s[:at], at, api.ErrForm)
			}
		}
	}
	open := strings.Repeat("[", 16)
	parses(t, in("", 15), within(list(), strings.Repeat("l", 14)))
	parses(t, in("", 16), within(list(), strings.Repeat("l", 15)))
	for s, at := range map[string]int{in("", 17): 16, open + "[": 16, open + "{": 16, open + "[}": 16, open + "[x": 16, open + "[\xff": 16, open + "1,[": 18, open + "],[[": 19, "[" + in("", 15) + "," + in("", 16) + "]": 47, `{"a":` + open: 20, `{"a":` + open[1:] + "{": 20, in("", 65000/2): 16, strings.Repeat(`{"":`, 17): 64, "[[]," + open: 19} {
		isWrong(t, s, at, api.ErrDeep)
		holds(t, s)
	}
	for s, at := range map[string]int{open: 16, open + "]": 17, open + "}": 16, open + "x[": 16, open + "1[": 17, open + "\xff[": 16, open + ",[": 16, open + "\"[": 18, open + "\"a\"[": 19, "x" + open + "[": 0, "[1 " + open + "[": 3, "[" + in("", 15) + "[": 31, `{"a":1,"a":` + open + "[": 7, in("", 16) + "[": 32, open[1:] + "{[": 16} {
		isWrong(t, s, at, api.ErrForm)
		holds(t, s)
	}
	parses(t, "["+strings.Repeat(in("", 15)+",", 500)+in("", 15)+"]", read(t, "["+strings.Repeat(in("", 15)+",", 500)+in("", 15)+"]"))
}

// P11.1: the error that is found tells its place, and its number.
func TestWrong(t *testing.T) {
	for s, want := range map[string]string{"01": "lighter: error 10 at 1", in("", 17): "lighter: error 11 at 16", "": "lighter: error 10 at 0"} {
		r := &reader{text: s}
		_, err := r.all()
		var w wrong
		if !errors.As(err, &w) || w.Error() != want {
			t.Errorf("%q: %v; want %s", s, err, want)
		}
	}
}

// P11.1: all short texts of some parts, held against the machine.
func TestParseEach(t *testing.T) {
	each(t, "[ ] { } , : 1 \"a\" \"b\" true", 5)
	each(t, `{ } " \ a u , : 1`, 6)
	each(t, "\" \\ \\ud800 \\udc00 \\u0041 \\u u d8 00 \xe2 \x82\xac \x00", 5)
	each(t, "{\"a\":1, \"a\" \"\\u0061\" : 1 } , \"b\":", 5)
	each(t, "[[[[[ {\"k\": ]]]]] } 1 , [ ]", 5)
}

// P11.1: texts by chance, with bytes taken out, put in, and changed.
func TestParseMixed(t *testing.T) {
	r := &numbers{1}
	some := []byte("[]{},:\"\\ubnrtf/0123456789abcdefABCDEFDd8Dc-+.eE \t\n\r\x00\x01\x1f\x7f\x80\xc2\xe2\xed\xf0\xffxln")
	for range 40000 {
		s, _ := loose(r, mixed(r, r.below(6)))
		holds(t, s)
		b := []byte(s)
		for range 1 + r.below(3) {
			at := r.below(len(b) + 1)
			c := some[r.below(len(some))]
			switch r.below(4) {
			case 0:
				b = slices.Insert(b, at, c)
			case 1:
				if at < len(b) {
					b[at] = c
				}
			case 2:
				if at < len(b) {
					b = slices.Delete(b, at, at+1)
				}
			case 3:
				from := r.below(len(b) + 1)
				b = append(slices.Clone(b[:at]), b[min(from, len(b)):]...)
			}
		}
		holds(t, string(b))
	}
	for range 100000 {
		b := make([]byte, r.below(12))
		for i := range b {
			b[i] = some[r.below(len(some))]
		}
		holds(t, string(b))
		holds(t, quoted(string(b)))
	}
}

// P11.2: each kind, and what is told of the parts of a text.
func TestPrintKinds(t *testing.T) {
	for _, v := range samples() {
		prints(t, v, written(v))
	}
	for want, v := range map[string]Value{
		"null": null(), "false": {Kind: False}, "true": {Kind: True}, "-2.5e3": number("-2.5e3"), "1E-07": number("1E-07"), `""`: text(""), `"a"`: text("a"), "[]": list(), "{}": object(),
		"[1,[2],{}]":               list(number("1"), list(number("2")), object()),
		`{"b":1,"a":{"":[null]}}`:  object("b", number("1"), "a", object("", list(null()))),
		`{"\"\\\n\u0001/é":"\t"}`:  object("\"\\\n\x01/é", text("\t")),
		"[\"/\x7f\u0080\u2028😀\"]": list(text("/\x7f\u0080\u2028\U0001F600")),
	} {
		prints(t, v, want)
	}
	prints(t, Value{Kind: Null, Items: []Value{}, Keys: []string{}}, "null")
	prints(t, Value{Kind: String, Items: []Value{}, Keys: []string{}}, `""`)
	prints(t, Value{Kind: List, Items: []Value{}, Keys: []string{}}, "[]")
	prints(t, Value{Kind: Object, Items: []Value{}, Keys: []string{}}, "{}")
	prints(t, Value{}, "null")
}

// P11.2: each rune, in a String and in a key.
func TestPrintRunes(t *testing.T) {
	low := []string{
		`\u0000`, `\u0001`, `\u0002`, `\u0003`, `\u0004`, `\u0005`, `\u0006`, `\u0007`, `\b`, `\t`, `\n`, `\u000b`, `\f`, `\r`, `\u000e`, `\u000f`,
		`\u0010`, `\u0011`, `\u0012`, `\u0013`, `\u0014`, `\u0015`, `\u0016`, `\u0017`, `\u0018`, `\u0019`, `\u001a`, `\u001b`, `\u001c`, `\u001d`, `\u001e`, `\u001f`,
	}
	for r := rune(0); r <= utf8.MaxRune; r++ {
		if utf16.IsSurrogate(r) {
			continue
		}
		want := string(r)
		switch {
		case r < 32:
			want = low[r]
		case r == '"' || r == '\\':
			want = `\` + want
		}
		if s, e := Print(text(string(r))); s != quoted(want) || e != api.OK {
			t.Errorf("rune %x: %q, %d", r, s, int(e))
		}
		if r < 300 || r%1000 == 0 {
			prints(t, text("a"+string(r)+string(r)), quoted("a"+want+want))
			prints(t, object(string(r), null()), "{"+quoted(want)+":null}")
		}
	}
}

// P11.2: values that may not be, alone, and at any depth.
func TestPrintMayNotBe(t *testing.T) {
	one := number("1")
	l := []Value{
		{Kind: Null, Text: "x"}, {Kind: False, Text: "false"}, {Kind: True, Text: "true"}, {Kind: List, Text: "x"}, {Kind: List, Text: "x", Items: values(one)}, {Kind: Object, Text: "x"}, {Kind: Null, Text: "\x00"}, {Kind: Null, Text: "null"},
		{Kind: Null, Items: values(one)}, {Kind: False, Items: values(one)}, {Kind: True, Items: values(one)}, {Kind: Number, Text: "1", Items: values(one)}, {Kind: String, Items: values(one)},
		{Kind: Null, Keys: keys("a")}, {Kind: False, Keys: keys("a")}, {Kind: True, Keys: keys("a")}, {Kind: Number, Text: "1", Keys: keys("a")}, {Kind: String, Keys: keys("a")}, {Kind: List, Keys: keys("a")}, {Kind: List, Keys: keys("a"), Items: values(one)}, {Kind: List, Keys: keys("")},
		{Kind: String, Keys: keys("a"), Items: values(one)}, {Kind: Null, Keys: keys("a"), Items: values(one)},
		{Kind: Object, Keys: keys("a")}, {Kind: Object, Items: values(one)}, {Kind: Object, Keys: keys("a", "b"), Items: values(one)}, {Kind: Object, Keys: keys("a"), Items: values(one, one)},
		{Kind: Object, Keys: keys("a", "a"), Items: values(one, one)}, {Kind: Object, Keys: keys("", ""), Items: values(one, one)}, {Kind: Object, Keys: keys("a", "b", "a"), Items: values(one, one, one)}, {Kind: Object, Keys: keys("b", "a", "a"), Items: values(one, one, one)},
		{Kind: Object, Keys: keys("\xff"), Items: values(one)}, {Kind: Object, Keys: keys("a", "b\xe2\x82"), Items: values(one, one)},
		{Kind: Number, Text: "\xff"},
	}
	for _, kind := range []int{-1, 7, 8, -7, 256, 1 << 32, math.MinInt, math.MaxInt} {
		l = append(l, Value{Kind: kind}, Value{Kind: kind, Text: "1"}, Value{Kind: kind, Items: values(one)}, Value{Kind: kind, Keys: keys("a"), Items: values(one)})
	}
	for _, s := range []string{"", "01", "00", "-", "--1", "+1", "1.", "1.e", "1.e5", ".5", "1e", "1e+", "1e+-1", "-01", " 1", "1 ", "1\n", "1\x00", "1,", "1,2", "1]", "x", "0x1", "1x", "null", "NaN", "Infinity", "1_0", "٣", "\"1\"", "[1]", "-e5", "1e5.5"} {
		l = append(l, number(s))
	}
	for _, s := range []string{"\xff", "a\xff", "\xc0\x80", "\xed\xa0\x80", "\xe2\x82", "a\x80b", "\xf4\x90\x80\x80"} {
		l = append(l, text(s), object(s, one), object("a", one, s, one))
	}
	for _, v := range l {
		isNotPrinted(t, v, api.ErrArg)
		isNotPrinted(t, list(v), api.ErrArg)
		isNotPrinted(t, list(one, list(), v, one), api.ErrArg)
		isNotPrinted(t, object("a", one, "b", v), api.ErrArg)
		isNotPrinted(t, object("a", v, "b", one), api.ErrArg)
		for _, n := range []int{15, 16, 17, 40} {
			isNotPrinted(t, within(v, strings.Repeat("l", n)), api.ErrArg)
			isNotPrinted(t, within(v, strings.Repeat("o", n)), api.ErrArg)
			isNotPrinted(t, list(within(one, strings.Repeat("l", n)), v), api.ErrArg)
			isNotPrinted(t, list(v, within(one, strings.Repeat("l", n))), api.ErrArg)
		}
		isNotPrinted(t, list(text(strings.Repeat("a", 70000)), v), api.ErrArg)
		isNotPrinted(t, list(v, text(strings.Repeat("a", 70000))), api.ErrArg)
	}
	isNotPrinted(t, list(Value{Kind: List, Text: "x", Items: values(one)}), api.ErrArg)
	many := object()
	for k := range 100000 {
		many.Keys = append(many.Keys, fmt.Sprint(k))
		many.Items = append(many.Items, null())
	}
	isNotPrinted(t, many, api.ErrLong)
	many.Keys[99999] = "0"
	isNotPrinted(t, many, api.ErrArg)
}

// P11.2: depths 16 and 17, and more; too deep ahead of too long.
func TestPrintDeep(t *testing.T) {
	long := text(strings.Repeat("a", 70000))
	for _, kinds := range []string{"l", "o", "lo", "ol"} {
		kinds = strings.Repeat(kinds, 100)
		for _, n := range []int{0, 1, 14, 15, 16, 17, 18, 33, 64, 100} {
			for _, inner := range []Value{null(), text("x"), list(), object(), list(list())} {
				v := within(inner, kinds[:n])
				deep := n + strings.Count(written(inner), "[") + strings.Count(written(inner), "{")
				if deep <= 16 {
					prints(t, v, written(v))
				} else {
					isNotPrinted(t, v, api.ErrDeep)
					isNotPrinted(t, list(null(), v, null()), api.ErrDeep)
					isNotPrinted(t, list(long, v, long), api.ErrDeep)
					isNotPrinted(t, object("a", v, "b", list()), api.ErrDeep)
				}
			}
			if n > 16 {
				isNotPrinted(t, within(long, kinds[:n]), api.ErrDeep)
			} else {
				isNotPrinted(t, within(long, kinds[:n]), api.ErrLong)
			}
		}
	}
	wide := list(within(list(), strings.Repeat("l", 14)), list(), within(list(), strings.Repeat("l", 13)))
	prints(t, wide, written(wide))
}

// P11.2: texts of 65536 bytes, and of 65537.
func TestPrintSizes(t *testing.T) {
	for _, more := range []int{0, 1} {
		nines := strings.Repeat("9", 65536+more)
		l := []Value{
			number(nines),
			text(nines[2:]),
			text(nines[4:] + "\n"),
			text("\x00" + nines[8:]),
			text(nines[8:] + "\x1f"),
			text(nines[5:] + "é\x7f"),
			list(text(nines[7:]), list()),
			list(list(), text(nines[7:])),
			object(nines[7:], list()),
			object("a", text(nines[17:]), "", Value{Kind: False}),
			list(append(make([]Value, 13106), text(nines[65536:]), number("1"))...),
		}
		for i, v := range l {
			want := written(v)
			if len(want) != 65536+more {
				t.Fatalf("%d: %d bytes", i, len(want))
			}
			if len(want) > 65536 {
				isNotPrinted(t, v, api.ErrLong)
			} else {
				prints(t, v, want)
			}
		}
	}
	for size := 65530; size < 65545; size++ {
		for _, ahead := range []Value{null(), text("\n"), list(list()), object("k", list(), "l", number("1"))} {
			v := list(ahead, text(""), list(null()))
			v.Items[1].Text = strings.Repeat("x", size-len(written(v)))
			if want := written(v); size > 65536 {
				isNotPrinted(t, v, api.ErrLong)
			} else {
				prints(t, v, want)
			}
		}
	}
	isNotPrinted(t, text(strings.Repeat("\x01", 11000)), api.ErrLong)
	isNotPrinted(t, text(strings.Repeat("\n", 32768)), api.ErrLong)
	prints(t, text(strings.Repeat("\n", 32767)), quoted(strings.Repeat(`\n`, 32767)))
	isNotPrinted(t, object(strings.Repeat("k", 1<<20), null()), api.ErrLong)
	isNotPrinted(t, list(make([]Value, 1<<20)...), api.ErrLong)
	prints(t, list(make([]Value, 13107)...), "["+strings.Repeat("null,", 13106)+"null]")
}

// P11.3: Get of keys that are there, once and twice, or not, of fewer Items than Keys, and of what is no Object.
func TestGet(t *testing.T) {
	v := object("a", number("5"), "b", text("x"), "", null(), "c", list(number("1"), object("d", list())), "é", object())
	for i, key := range v.Keys {
		if x, ok := Get(v, key); !ok || !equal(x, v.Items[i]) {
			t.Errorf("Get(%q) = %v, %v", key, x, ok)
		}
	}
	isNone := func(v Value, key string) {
		t.Helper()
		if x, ok := Get(v, key); ok || !equal(x, Value{}) {
			t.Errorf("Get(%s, %.50q) = %s, %v", shown(v), key, shown(x), ok)
		}
	}
	for _, key := range []string{"d", "A", "a ", "ab", "x", "\x00", "e", "\xc3", strings.Repeat("a", 1<<20)} {
		isNone(v, key)
		isNone(object(), key)
	}
	isNone(object(), "")
	twice := Value{Kind: Object, Keys: keys("b", "a", "a", "a"), Items: values(null(), number("1"), number("2"), number("3"))}
	if x, ok := Get(twice, "a"); !ok || !equal(x, number("1")) {
		t.Errorf("a key that is there twice: %v, %v", x, ok)
	}
	fewer := Value{Kind: Object, Keys: keys("a", "b", "c", "b"), Items: values(number("1"))}
	if x, ok := Get(fewer, "a"); !ok || !equal(x, number("1")) {
		t.Errorf("the Item that there is: %v, %v", x, ok)
	}
	isNone(fewer, "b")
	isNone(fewer, "c")
	isNone(fewer, "d")
	isNone(Value{Kind: Object, Keys: keys("a")}, "a")
	isNone(Value{Kind: Object, Items: values(null())}, "")
	more := Value{Kind: Object, Keys: keys("a"), Items: values(number("1"), number("2"))}
	if x, ok := Get(more, "a"); !ok || !equal(x, number("1")) {
		t.Errorf("more Items than Keys: %v, %v", x, ok)
	}
	for _, kind := range []int{Null, False, True, Number, String, List, -1, 7, math.MinInt, math.MaxInt} {
		isNone(Value{Kind: kind, Text: "a", Keys: keys("a"), Items: values(null())}, "a")
		isNone(Value{Kind: kind}, "")
	}
	odd := Value{Kind: 9, Text: "\xff", Keys: keys("k", "k"), Items: values(Value{Kind: -1}, null(), null())}
	if x, ok := Get(Value{Kind: Object, Text: "t", Keys: keys("\xff"), Items: values(odd)}, "\xff"); !ok || !equal(x, odd) {
		t.Errorf("what may not be: %v, %v", x, ok)
	}
}

// P11.3: Int of integers up to 2^53, and of what is none.
func TestInt(t *testing.T) {
	for s, want := range map[string]int{
		"0": 0, "-0": 0, "1": 1, "-1": -1, "-17": -17, "10": 10, "4294967296": 1 << 32, "-2147483649": -1<<31 - 1,
		"9007199254740991": 1<<53 - 1, "9007199254740992": 1 << 53, "-9007199254740991": 1 - 1<<53, "-9007199254740992": -1 << 53,
	} {
		if n, ok := Int(number(s)); !ok || n != want {
			t.Errorf("Int of %s = %d, %v", s, n, ok)
		}
		for kind := -1; kind < 9; kind++ {
			if n, ok := Int(Value{Kind: kind, Text: s}); kind != Number && (ok || n != 0) {
				t.Errorf("Int of kind %d, %s = %d, %v", kind, s, n, ok)
			}
		}
	}
	for _, s := range []string{
		"9007199254740993", "-9007199254740993", "9007199254740994", "9223372036854775807", "9223372036854775808", "-9223372036854775808", "-9223372036854775809", "18446744073709551616", "18446744073709551617", "36893488147419103239", "99999999999999999999", strings.Repeat("9", 1000), "-" + strings.Repeat("1", 1<<20), "1" + strings.Repeat("0", 64),
		"1.0", "0.0", "-0.0", "1.5", "1e3", "1E3", "0e0", "1e0", "1e-0", "10e-1", "9007199254740992.0", "1e400",
		"", "-", "+1", "01", "00", "-01", "007", strings.Repeat("0", 1000), " 1", "1 ", "1_000", "0x10", "1.", "1e", "x", "1x", "\x00", "٣", "null", "\xff", "1\n", "--1",
	} {
		if n, ok := Int(number(s)); ok || n != 0 {
			t.Errorf("Int of %.50q = %d, %v", s, n, ok)
		}
	}
	for n := -3000; n <= 3000; n++ {
		for _, at := range []int{0, 1 << 53, -1 << 53, 1 << 31, 1 << 32, -1 << 31, 1 << 52} {
			got, ok := Int(number(fmt.Sprint(at + n)))
			want := at + n
			if want < -1<<53 || want > 1<<53 {
				want = 0
			}
			if got != want || ok != (want == at+n) {
				t.Fatalf("Int of %d = %d, %v", at+n, got, ok)
			}
		}
	}
}

// P11.3: Text of each kind.
func TestText(t *testing.T) {
	for kind := -2; kind < 10; kind++ {
		for _, s := range []string{"", "a", "null", "5", "\x00", "é", "\xff"} {
			want := ""
			if kind == String {
				want = s
			}
			if got, ok := Text(Value{Kind: kind, Text: s}); got != want || ok != (kind == String) {
				t.Errorf("Text of kind %d, %q = %q, %v", kind, s, got, ok)
			}
		}
	}
	for _, v := range []Value{list(text("a")), object("a", text("a")), null(), {Kind: math.MinInt, Text: "a"}, {Kind: math.MaxInt, Text: "a"}} {
		if s, ok := Text(v); s != "" || ok {
			t.Errorf("Text(%v) = %q, %v", v, s, ok)
		}
	}
}

// P11.3: Same of values that differ in one thing alone, at any depth, and of lists that are nil and empty.
func TestSame(t *testing.T) {
	l := append(samples(), Value{Kind: -1}, Value{Kind: 7}, Value{Kind: Null, Text: "x"}, Value{Kind: Number, Text: "1.0"}, number("1"), Value{Kind: List, Keys: keys("a"), Items: values(null())}, Value{Kind: Object, Keys: keys("a", "a"), Items: values(null())}, text("\xff"), text("\ufffd"), number("1e1"), number("10"))
	for i, a := range l {
		for k, b := range l {
			if Same(a, b) != equal(a, b) {
				t.Errorf("Same of samples %d, %d is not %v", i, k, equal(a, b))
			}
		}
	}
	base := func() Value {
		return Value{Kind: Object, Text: "t", Keys: keys("a", "b"), Items: values(number("1"), list(null(), text("x")))}
	}
	changes := []func(v *Value){
		func(v *Value) { v.Kind = List },
		func(v *Value) { v.Kind = -1 },
		func(v *Value) { v.Text = "" },
		func(v *Value) { v.Text = "T" },
		func(v *Value) { v.Keys[0] = "A" },
		func(v *Value) { v.Keys[1] = "" },
		func(v *Value) { v.Keys = v.Keys[:1] },
		func(v *Value) { v.Keys = append(v.Keys, "") },
		func(v *Value) { v.Keys = nil },
		func(v *Value) { slices.Reverse(v.Keys) },
		func(v *Value) { slices.Reverse(v.Items) },
		func(v *Value) { v.Items = v.Items[:1] },
		func(v *Value) { v.Items = append(v.Items, null()) },
		func(v *Value) { v.Items = nil },
		func(v *Value) { v.Items[0].Kind = String },
		func(v *Value) { v.Items[0].Text = "1.0" },
		func(v *Value) { v.Items[1].Items[0].Kind = False },
		func(v *Value) { v.Items[1].Items[1].Text = "y" },
		func(v *Value) { v.Items[1].Items[1].Keys = keys("") },
		func(v *Value) { v.Items[1].Items[1].Items = values(null()) },
		func(v *Value) { slices.Reverse(v.Keys); slices.Reverse(v.Items) },
	}
	for _, n := range []int{0, 1, 2, 16, 17, 1000} {
		around := strings.Repeat("lo", n)[:n]
		if !Same(within(base(), around), within(base(), around)) {
			t.Errorf("depth %d: not the same as itself", n)
		}
		for i, change := range changes {
			other := base()
			change(&other)
			a, b := within(base(), around), within(other, around)
			if Same(a, b) || Same(b, a) {
				t.Errorf("depth %d: change %d makes no difference", n, i)
			}
			if Same(list(null(), a), list(null(), b)) || Same(object("x", a, "y", null()), object("x", b, "y", null())) {
				t.Errorf("depth %d: change %d makes no difference among others", n, i)
			}
		}
	}
	bare := Value{Kind: List}
	empty := Value{Kind: List, Items: []Value{}, Keys: []string{}}
	if !Same(bare, empty) || !Same(empty, bare) || !Same(list(bare, empty), list(empty, bare)) || !Same(Value{}, Value{Items: []Value{}}) {
		t.Error("nil and empty are not the same")
	}
	if Same(bare, list(null())) || Same(list(null()), bare) || Same(list(null()), list(null(), null())) || Same(list(), object()) || Same(list(list()), list(object())) {
		t.Error("lists of other sizes, or kinds, are the same")
	}
}

// P11.4: what is printed is parsed as that value.
func TestPrintedIsParsed(t *testing.T) {
	r := &numbers{7}
	l := samples()
	for range 20000 {
		l = append(l, mixed(r, r.below(7)))
	}
	for _, v := range l {
		s, e := Print(v)
		if e != api.OK || s != written(v) {
			t.Errorf("Print(%s) = %q, %d; want %q", shown(v), s, int(e), written(v))
		}
		parses(t, s, v)
		if back, _, _ := Parse(s); !Same(v, back) || !Same(back, v) {
			t.Errorf("%q is not the same", s)
		}
	}
}

// P11.4: what is parsed may be, and printed, parsed again, is the same; blanks make no difference.
func TestParsedIsPrinted(t *testing.T) {
	r := &numbers{9}
	for range 20000 {
		want := mixed(r, r.below(7))
		s, bare := loose(r, want)
		v, at, e := Parse(s)
		if at != 0 || e != api.OK || !equal(v, want) {
			t.Fatalf("Parse(%q) = %v, %d, %d; want %v", s, v, at, int(e), want)
		}
		again, e := Print(v)
		if e != api.OK || len(again) > len(s) {
			t.Errorf("Print of %q = %q, %d", s, again, int(e))
		}
		parses(t, again, want)
		parses(t, bare, want)
	}
	// What is printed of a text is never longer than that, so that none is too long.
	for _, s := range []string{quoted(strings.Repeat("a", 65534)), quoted(strings.Repeat(`\u0001`, 10922)), quoted(strings.Repeat(`\n`, 32767)), quoted(strings.Repeat(`\/`, 32767)), quoted(strings.Repeat("😀", 16383))} {
		v, _, e := Parse(s)
		if e != api.OK {
			t.Fatal(int(e))
		}
		again, e := Print(v)
		if e != api.OK {
			t.Errorf("%.50q: %d", s, int(e))
		}
		parses(t, again, v)
	}
}

// P11.4: blanks make no difference to a text that is wrong, but to where.
func TestBlanksWhereWrong(t *testing.T) {
	for s, at := range map[string]int{"[1,]": 3, "[1}": 2, "{": 1, `{"a"1}`: 4, `{"a":1,"a":2}`: 7, `["\ud800"]`: 2, "nulx": 3, "[[[[[[[[[[[[[[[[[": 16, "{}x": 2} {
		_, _, e := Parse(s)
		isWrong(t, s, at, e)
		isWrong(t, "\n\t \r"+s, at+4, e)
		isWrong(t, s+"  ", at+map[bool]int{false: 0, true: 2}[at == len(s)], e)
	}
}

// P11.4: of what is cut off nothing is parsed, but of a number, or of blanks behind.
func TestCutOff(t *testing.T) {
	r := &numbers{3}
	l := samples()
	for range 500 {
		l = append(l, mixed(r, r.below(5)))
	}
	for _, v := range l {
		s := written(v)
		for n := range len(s) {
			holds(t, s[:n])
			if got, _, e := Parse(s[:n]); e == api.OK && (v.Kind != Number || got.Kind != Number || got.Text != s[:n]) {
				t.Errorf("Parse(%q) = %v, cut off from %q", s[:n], got, s)
			}
		}
		for n := range 5 {
			parses(t, s+" \t\r\n"[:n], v)
		}
	}
}

// Rules: what is handed in stays as it was, and an answer shares nothing with it, nor two lists of one answer.
func TestNothingIsShared(t *testing.T) {
	inner := object("x", list(number("1"), text("y")), "z", object("k", null()))
	v := object("a", inner, "b", list(inner, inner))
	was := written(v)
	for _, key := range []string{"a", "b"} {
		x, _ := Get(v, key)
		scribble(&x)
		if written(v) != was {
			t.Fatalf("Get(%q) shares its lists: %s", key, written(v))
		}
	}
	x, _ := Get(v, "b")
	scribble(&x.Items[0])
	if !equal(x.Items[1], inner) {
		t.Error("two lists of Get's answer are one")
	}
	Print(v)
	Same(v, v)
	if written(v) != was {
		t.Errorf("v is another one: %s", written(v))
	}
	p, _, _ := Parse(was)
	again, _, _ := Parse(was)
	scribble(&p.Items[0])
	if written(p.Items[1]) != written(v.Items[1]) || !equal(again, v) {
		t.Error("lists of Parse's answers are one")
	}
	p, _, _ = Parse("[[1],[2],[3]]")
	for i := range p.Items {
		p.Items[i].Items = append(p.Items[i].Items, null())
	}
	if written(p) != "[[1,null],[2,null],[3,null]]" {
		t.Errorf("lists share what is behind them: %s", written(p))
	}
	p, _, _ = Parse(`{"a":{"b":1},"c":{"d":2}}`)
	for i := range p.Items {
		p.Items[i].Keys = append(p.Items[i].Keys, "more")
		p.Items[i].Items = append(p.Items[i].Items, null())
	}
	if written(p) != `{"a":{"b":1,"more":null},"c":{"d":2,"more":null}}` {
		t.Errorf("keys share what is behind them: %s", written(p))
	}
}

// scribble changes all that a value has.
func scribble(v *Value) {
	for i := range v.Items {
		scribble(&v.Items[i])
	}
	for i := range v.Keys {
		v.Keys[i] += "!"
	}
	v.Kind, v.Text = String, v.Text+"!"
}

// Rules: values of 2^16 levels, and lists that have themselves, come to an end.
func TestManyLevels(t *testing.T) {
	for _, kinds := range []string{"l", "o"} {
		around := strings.Repeat(kinds, 1<<16)
		good, bad := within(number("1"), around), within(number("x"), around)
		isNotPrinted(t, good, api.ErrDeep)
		isNotPrinted(t, bad, api.ErrArg)
		isNotPrinted(t, list(within(null(), around[1:]), Value{Kind: 7}), api.ErrArg)
		if !Same(good, within(number("1"), around)) || Same(good, bad) || Same(good, within(number("1"), around[1:])) {
			t.Error("levels make a difference")
		}
		x, ok := Get(object("k", within(number("1"), around[1:])), "k")
		if !ok || !Same(x, within(number("1"), around[1:])) {
			t.Error("Get of many levels")
		}
	}
	for _, kind := range []int{List, Object} {
		l := values(Value{Kind: kind})
		l[0].Items = l
		if kind == Object {
			l[0].Keys = keys("k")
		}
		isNotPrinted(t, l[0], api.ErrDeep)
		if !Same(l[0], l[0]) || Same(l[0], list()) || Same(l[0], list(list())) {
			t.Error("a list that has itself")
		}
		if _, ok := Get(l[0], "k"); ok != (kind == Object) {
			t.Error("Get of an object that has itself")
		}
	}
}
