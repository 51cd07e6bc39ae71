package inodes

import (
	"bytes"
	"encoding/binary"
	"fmt"
	"hash/crc32"
	"math"
	"reflect"
	"slices"
	"strings"
	"testing"

	"lighter/api"
)

// far are numbers that are no Size, no block and no Count.
var far = []int{math.MinInt, math.MinInt + 1, -1 << 32, -65536, -4096, -512, -2, -1, 65537, 1 << 16 << 16, 1<<32 + 1, math.MaxInt - 65536, math.MaxInt - 4096, math.MaxInt - 1, math.MaxInt}

// of is an inode with extents that are told as First, Count, First, Count and so on.
func of(name string, size int, l ...int) Inode {
	i := Inode{Name: name, Size: size}
	for k := 0; k < len(l); k += 2 {
		i.Extents = append(i.Extents, api.Extent{First: l[k], Count: l[k+1]})
	}
	return i
}

// apart is an inode of so many extents of one block each, none beside another one, that needs as many as there are.
func apart(n int) Inode {
	i := of("a", n*512)
	for k := range n {
		i.Extents = append(i.Extents, api.Extent{First: 2*k + 1, Count: 1})
	}
	return i
}

// mayBe is the chapter's words, one by one, with numbers that can't leave the range.
func mayBe(i Inode) bool {
	if len(i.Name) == 0 || len(i.Name) > 96 || i.Size < 0 || i.Size > 65536 || len(i.Extents) > 8 {
		return false
	}
	in := map[int]int{}
	for _, x := range i.Extents {
		if x.Count < 1 || x.First < 0 || x.Count > 4096 || x.First > 4095 {
			return false
		}
		for k := range x.Count {
			in[x.First+k]++
		}
	}
	for b, times := range in {
		if b > 4095 || times > 1 {
			return false
		}
	}
	return len(in) == (i.Size+511)/512
}

// whole is what stands ahead of the CRC-32, with that behind it, and bytes 0.
func whole(head []byte) string {
	b := binary.LittleEndian.AppendUint32(slices.Clone(head), crc32.ChecksumIEEE(head))
	return string(append(b, make([]byte, 256-len(b))...))
}

// head is what stands ahead of the CRC-32, of an inode that may be or not.
func head(i Inode) []byte {
	b := make([]byte, 134)
	b[0] = byte(len(i.Name))
	copy(b[1:97], i.Name)
	binary.LittleEndian.PutUint32(b[97:], uint32(i.Size))
	b[101] = byte(len(i.Extents))
	for k, x := range i.Extents {
		if k < 8 {
			binary.LittleEndian.PutUint16(b[102+4*k:], uint16(x.First))
			binary.LittleEndian.PutUint16(b[104+4*k:], uint16(x.Count))
		}
	}
	return b
}

// good are inodes that may be.
func good() []Inode {
	l := []Inode{
		of("a", 0), of("a", 1, 7, 1), of("ab", 600, 7, 2), of("\x00", 0), of("\x00\x00", 512, 0, 1), of("a\x00", 0), of("\x00a", 512, 4095, 1),
		of("\xff\xfe\xc3", 513, 4094, 2), of("\xed\xa0\x80/.. \n", 0), of("ä語", 1024, 9, 1, 8, 1), of("up", 1024, 8, 1, 9, 1), of("down", 1500, 9, 1, 7, 2),
		of("ends", 1025, 4095, 1, 0, 2), of("far", 700, 258, 1, 3, 1), of("most", 65536, 0, 128), of("last", 65536, 3968, 128), of("most but one", 65535, 100, 128),
		of("below", 65024, 100, 127), of("above", 65025, 100, 128), of("two", 65536, 255, 1, 256, 127), of("sum", 2560, 1, 2, 10, 3),
		of(strings.Repeat("n", 95), 0), of(strings.Repeat("n", 96), 512, 300, 1), of(strings.Repeat("\x00", 96), 0), of(strings.Repeat("\xff", 96), 65536, 4095, 1, 3000, 127),
		{Name: "empty", Extents: []api.Extent{}},
	}
	for n := range 8 {
		l = append(l, apart(n+1))
	}
	return l
}

// wrong are inodes that may not be.
func wrong() []Inode {
	l := []Inode{
		{}, of("", 600, 7, 2), of(strings.Repeat("n", 97), 0), of(strings.Repeat("n", 97), 600, 7, 2), of(strings.Repeat("n", 256), 0), of(strings.Repeat("n", 257), 0), of(strings.Repeat("n", 1<<16), 0),
		of("a", 65537, 0, 129), of("a", 65537, 0, 128), of("a", 65537), of("a", -1), of("a", -512, 0, 1), of("a", -513, 0, 1), of("a", 1<<32), of("a", 1<<32+512, 7, 1),
		of("a", 0, 7, 1), of("a", 1), of("a", 512), of("a", 513, 7, 1), of("a", 512, 7, 2), of("a", 1024, 7, 1), of("a", 1024, 7, 3), of("a", 2000, 7, 2), of("a", 600, 7, 2, 9, 1),
		of("a", 0, 7, 0), of("a", 512, 7, 1, 9, 0), of("a", 512, 7, 0), of("a", 512, 7, 2, 20, -1), of("a", 512, 8, -1), of("a", 0, 8, -1), of("a", 0, 8, 1, 8, -1),
		of("a", 512, -1, 1), of("a", 1024, -1, 2), of("a", 512, 4096, 1), of("a", 1024, 4095, 2), of("a", 65536, 3969, 128), of("a", 0, 4096, 0), of("a", 65536, 0, 4097), of("a", 65536, 0, 4096),
		of("a", 600, 7, 1, 7, 1), of("a", 512, 7, 1, 7, 1), of("a", 1536, 7, 1, 8, 1, 7, 1), of("a", 2048, 7, 2, 8, 2), of("a", 2048, 8, 2, 7, 2), of("a", 1536, 7, 2, 8, 2), of("a", 2048, 7, 3, 8, 1),
		of("a", 1536, 7, 1, 7, 1, 7, 1), of("a", 512, 7, 1, 7, 1, 7, 1), of("a", 512, 65536+7, 1), of("a", 512, 7, 65536+1), of("a", 65536, 0, 128, 200, 1), of("a", 65536, 0, 127), of("a", 65536),
		of("a", 512, math.MaxInt, 1), of("a", 512, math.MaxInt, math.MaxInt), of("a", 512, 1, math.MaxInt), of("a", 512, 4095, math.MaxInt), of("a", 512, math.MaxInt-1, 3), of("a", 512, math.MinInt, math.MinInt),
		of("a", 0, 1, math.MaxInt, 5, math.MaxInt, 9, 2), of("a", 512, 0, 1<<62, 1, 1<<62, 2, 1<<62, 3, 1<<62, 4, 1), of("a", 512, math.MinInt, 1), of("a", 1, math.MaxInt, math.MinInt), of("a", 512, 7, 1<<32+1), of("a", 512, 1<<32+7, 1),
		apart(9), apart(10), apart(40), apart(128), apart(256), apart(257),
	}
	nine := apart(9)
	nine.Size = 8 * 512
	l = append(l, nine)
	for _, n := range far {
		l = append(l, of("a", n), of("a", n, 7, 2), of("a", 600, n, 2), of("a", 600, 7, n), of("a", 600, n, n), of("a", 600, 7, 2, n, 1), of("a", 600, 7, 2, 20, n), of("a", 0, n, 0))
	}
	return l
}

// P9.1: an inode is put as its bytes, if it may be.
func TestPut(t *testing.T) {
	for _, i := range good() {
		if !mayBe(i) {
			t.Fatalf("%v is no good one", i)
		}
		if e := Check(i); e != api.OK {
			t.Errorf("Check(%v) is %v", i, e)
		}
		if s, e := Put(i); e != api.OK || s != whole(head(i)) {
			t.Errorf("Put(%v) is %q, %v", i, s, e)
		}
	}
}

// P9.1: one that may not be is told, whatever is wrong with it, and nothing is put; where two things are wrong, it is told, too.
func TestPutWrong(t *testing.T) {
	for _, i := range wrong() {
		if mayBe(i) {
			t.Fatalf("%v is no wrong one", i)
		}
		for _, name := range []string{i.Name, "", strings.Repeat("n", 97)} {
			i.Name = name
			if e := Check(i); e != api.ErrArg {
				t.Errorf("Check(%v) is %v", i, e)
			}
			if s, e := Put(i); e != api.ErrArg || s != "" {
				t.Errorf("Put(%v) is %q, %v", i, s, e)
			}
		}
	}
}

// P9.1: the lengths of a name, from none to beyond.
func TestNames(t *testing.T) {
	for n := range 300 {
		for _, c := range []string{"a", "\x00", "\xff"} {
			want := api.OK
			if n < 1 || n > 96 {
				want = api.ErrArg
			}
			if e := Check(of(strings.Repeat(c, n), 512, 7, 1)); e != want {
				t.Errorf("%d times %q: %v", n, c, e)
			}
		}
	}
}

// P9.1: a Size has just as many blocks as hold it, from 0 to beyond the greatest one, together or each by itself.
func TestSizes(t *testing.T) {
	for n := range 130 {
		for _, size := range []int{512*n - 512, 512*n - 511, 512*n - 1, 512 * n, 512*n + 1} {
			l := []Inode{of("a", size, 50, n)}
			if n == 0 {
				l = []Inode{of("a", size)}
			}
			if n > 8 {
				l = append(l, of("a", size, 2000, n-8, 1, 1, 3, 1, 2, 1, 9, 1, 11, 1, 13, 2, 8, 1))
			}
			if 0 < n && n < 9 {
				i := apart(n)
				i.Size = size
				l = append(l, i)
			}
			for _, i := range l {
				want := api.ErrArg
				if size >= 0 && size <= 65536 && size > 512*n-512 && size <= 512*n {
					want = api.OK
				}
				if e := Check(i); e != want {
					t.Errorf("Check(%v) is %v", i, e)
				}
			}
		}
	}
}

// P9.1: each block of the greatest disk is one that may be, and no other one; so many blocks may stand ahead of its end.
func TestBlocks(t *testing.T) {
	for first := -3; first < 4100; first++ {
		for _, n := range []int{1, 2, 3} {
			want := api.ErrArg
			if first >= 0 && first+n <= 4096 {
				want = api.OK
			}
			if e := Check(of("a", 512*n, first, n)); e != want {
				t.Errorf("%d from %d on: %v", n, first, e)
			}
		}
	}
}

// P9.1: no block is in two extents, wherever these stand in the list.
func TestTwice(t *testing.T) {
	for a := range 9 {
		for b := range 9 {
			for _, counts := range [][2]int{{1, 1}, {1, 3}, {3, 1}, {2, 3}, {4, 4}} {
				i := of("a", 512*(counts[0]+counts[1]+1), a, counts[0], 20, 1, b, counts[1])
				want := api.OK
				if a < b+counts[1] && b < a+counts[0] {
					want = api.ErrArg
				}
				if e := Check(i); e != want {
					t.Errorf("Check(%v) is %v", i, e)
				}
			}
		}
	}
	// The same one twice is none, though the blocks that there are, each counted once, are as many as the Size needs.
	for _, size := range []int{512, 1024, 1536} {
		if e := Check(of("a", size, 7, 1, 8, 1, 7, 1)); e != api.ErrArg {
			t.Errorf("%d bytes: %v", size, e)
		}
	}
	for k := range 8 {
		for j := range k {
			i := apart(8)
			i.Extents[k] = i.Extents[j]
			if e := Check(i); e != api.ErrArg {
				t.Errorf("Check(%v) is %v", i, e)
			}
		}
	}
}

// P9.2, P9.3: what is put is got, and what is got is put as it stood.
func TestGet(t *testing.T) {
	for _, i := range good() {
		s := whole(head(i))
		x, there, e := Get(s)
		if !there || e != api.OK || x.Name != i.Name || x.Size != i.Size || !slices.Equal(x.Extents, i.Extents) {
			t.Errorf("Get(%q) is %v, %v, %v", s, x, there, e)
		}
		if again, e := Put(x); e != api.OK || again != s {
			t.Errorf("Put(%v) is %q, %v", x, again, e)
		}
	}
}

// nothing fails, if Get tells something else than that these bytes are no inode's and not those of none.
func nothing(t *testing.T, what, s string) {
	t.Helper()
	if i, there, e := Get(s); there || e != api.ErrForm || !reflect.DeepEqual(i, Inode{}) {
		t.Errorf("%s: Get(%q) is %v, %v, %v", what, s, i, there, e)
	}
}

// P9.2: of the bytes of none there is none, and nothing is wrong.
func TestGetNone(t *testing.T) {
	if i, there, e := Get(string(make([]byte, 256))); there || e != api.OK || !reflect.DeepEqual(i, Inode{}) {
		t.Errorf("none: %v, %v, %v", i, there, e)
	}
}

// P9.2: bytes of another length are neither an inode's nor those of none.
func TestGetLengths(t *testing.T) {
	one := whole(head(of("a", 600, 7, 2)))
	for n := range 600 {
		if n == 256 {
			continue
		}
		nothing(t, fmt.Sprint(n, " bytes 0"), string(make([]byte, n)))
		nothing(t, fmt.Sprint(n, " bytes of one"), (one + one + one)[:n])
		nothing(t, fmt.Sprint(n, " bytes of one, and bytes 0"), (one + string(make([]byte, 600)))[:n])
	}
	nothing(t, "one behind a byte 0", "\x00"+one[:255])
	nothing(t, "none", "")
}

// P9.3: of bytes of which one is another one nothing is got: those of none, and of an inode, each byte any other one.
func TestGetOneByteAnother(t *testing.T) {
	l := []string{string(make([]byte, 256)), whole(head(of("\x00", 0))), whole(head(of("ab", 600, 7, 2))), whole(head(of(strings.Repeat("\x00", 96), 65536, 0, 128))), whole(head(apart(8)))}
	for _, s := range l {
		for at := range 256 {
			b := []byte(s)
			for c := range 256 {
				if b[at] = byte(c); string(b) == s {
					continue
				}
				if i, there, e := Get(string(b)); there || e != api.ErrForm || i.Name != "" || i.Size != 0 || i.Extents != nil {
					t.Errorf("%q with %d at %d: %v, %v, %v", s, c, at, i, there, e)
				}
			}
		}
	}
	for _, i := range good() {
		for at := range 256 {
			b := []byte(whole(head(i)))
			b[at] ^= 1 << (at % 8)
			nothing(t, fmt.Sprint("another one at ", at), string(b))
		}
	}
}

// changed is the bytes of an inode of which some of those ahead of the CRC-32, from one on, are others, while the CRC-32 is right.
func changed(i Inode, at int, bytes ...byte) string {
	b := head(i)
	copy(b[at:], bytes)
	return whole(b)
}

// P9.2: bytes whose CRC-32 is right are no inode's, if one of their parts may not be.
func TestGetRightSum(t *testing.T) {
	one := of("ab", 600, 7, 2)
	for n := range 256 {
		if n < 2 || n > 96 {
			nothing(t, fmt.Sprint("a name of ", n), changed(one, 0, byte(n)))
		}
	}
	full := of(strings.Repeat("n", 96), 600, 7, 2)
	for n := range 256 {
		if n != 96 {
			nothing(t, fmt.Sprint("a name of 96 bytes as one of ", n), changed(full, 0, byte(n)))
		}
	}
	for at := 3; at < 97; at++ {
		nothing(t, fmt.Sprint("a byte behind the name, at ", at), changed(one, at, 1))
	}
	for n := range 256 {
		if n != 1 {
			nothing(t, fmt.Sprint("so many extents: ", n), changed(one, 101, byte(n)))
		}
		if n != 8 {
			nothing(t, fmt.Sprint("eight extents as ", n), changed(apart(8), 101, byte(n)))
		}
	}
	for at := 106; at < 134; at++ {
		nothing(t, fmt.Sprint("a byte behind the last extent, at ", at), changed(one, at, 1))
	}
	for at := 102; at < 134; at++ {
		nothing(t, fmt.Sprint("a byte where no extent is, at ", at), changed(of("ab", 0), at, 1))
	}
	for at := 138; at < 256; at++ {
		b := []byte(whole(head(one)))
		b[at] = 1
		nothing(t, fmt.Sprint("a byte behind the CRC-32, at ", at), string(b))
	}
	for _, l := range [][]byte{{0, 0, 1, 0}, {1, 0, 1, 0}, {88, 2, 0, 1}, {88, 2, 0, 128}, {88, 2, 1, 0}, {255, 255, 255, 255}, {1, 4, 0, 0}, {0, 2, 0, 0}, {0, 0, 0, 0}} {
		nothing(t, fmt.Sprint("a Size of ", l), changed(one, 97, l...))
	}
	nothing(t, "a Size that is too great, with blocks for it", changed(of("a", 65536, 0, 129), 97, 1, 0, 1, 0))
}

// P9.2: bytes whose CRC-32 is right are no inode's, if its extents may not be; whatever inode that is.
func TestGetWrong(t *testing.T) {
	n := 0
	for _, i := range wrong() {
		s := whole(head(i))
		// The bytes may tell of less than the inode has, where a number has more bytes than there is room for.
		if x, ok := told(s); !ok || !reflect.DeepEqual(x, i) {
			continue
		}
		n++
		nothing(t, fmt.Sprint("one that may not be: ", i), s)
	}
	if n < 20 {
		t.Errorf("just %d", n)
	}
}

// told is what the bytes tell, by their places; false: they tell of more than has room.
func told(s string) (i Inode, ok bool) {
	if s[0] > 96 || s[101] > 8 {
		return i, false
	}
	b := []byte(s)
	i.Name = s[1 : 1+b[0]]
	i.Size = int(binary.LittleEndian.Uint32(b[97:]))
	for k := range int(b[101]) {
		i.Extents = append(i.Extents, api.Extent{First: int(binary.LittleEndian.Uint16(b[102+4*k:])), Count: int(binary.LittleEndian.Uint16(b[104+4*k:]))})
	}
	return i, true
}

// P9.1: two are the same, if name, size and extents are, whether they may be or not.
func TestSame(t *testing.T) {
	one := func() Inode { return of("ab", 1500, 7, 2, 20, 1) }
	if !Same(one(), one()) {
		t.Error("it is not as itself")
	}
	others := []Inode{
		of("aB", 1500, 7, 2, 20, 1), of("a", 1500, 7, 2, 20, 1), of("abc", 1500, 7, 2, 20, 1), of("ab\x00", 1500, 7, 2, 20, 1), of("", 1500, 7, 2, 20, 1), of("ba", 1500, 7, 2, 20, 1),
		of("ab", 1501, 7, 2, 20, 1), of("ab", 1499, 7, 2, 20, 1), of("ab", 0, 7, 2, 20, 1), of("ab", -1500, 7, 2, 20, 1), of("ab", 1500+1<<32, 7, 2, 20, 1), of("ab", math.MinInt, 7, 2, 20, 1),
		of("ab", 1500, 6, 2, 20, 1), of("ab", 1500, 7, 2, 21, 1), of("ab", 1500, 7, 1, 20, 1), of("ab", 1500, 7, 2, 20, 2), of("ab", 1500, 7+1<<16, 2, 20, 1), of("ab", 1500, 7, 2+1<<16, 20, 1), of("ab", 1500, 2, 7, 20, 1),
		of("ab", 1500, 20, 1, 7, 2), of("ab", 1500, 7, 1, 8, 1, 20, 1), of("ab", 1500, 7, 2), of("ab", 1500), of("ab", 1500, 7, 2, 20, 1, 0, 0), of("ab", 1500, 7, 2, 20, 1, 30, 1), of("ab", 1500, 20, 1), {},
	}
	for _, x := range others {
		if Same(one(), x) || Same(x, one()) {
			t.Errorf("%v is as %v", x, one())
		}
		copied := x
		copied.Name = strings.Clone(x.Name)
		copied.Extents = slices.Clone(x.Extents)
		if !Same(x, copied) {
			t.Errorf("%v is not as itself", x)
		}
	}
	for k, x := range append(good(), wrong()...) {
		for j, y := range append(good(), wrong()...) {
			want := x.Name == y.Name && x.Size == y.Size && len(x.Extents) == len(y.Extents) && fmt.Sprint(x.Extents) == fmt.Sprint(y.Extents)
			if Same(x, y) != want {
				t.Errorf("%d and %d: %v, %v", k, j, x, y)
			}
		}
	}
	if x, y := (Inode{Name: "a"}), (Inode{Name: "a", Extents: []api.Extent{}}); !Same(x, y) || !Same(y, x) || !Same(x, x) || !Same(y, y) {
		t.Error("no extents are not as no extents")
	}
}

// numbers are numbers that come as by chance, and the same each time.
type numbers uint64

func (n *numbers) below(m int) int {
	*n = *n*6364136223846793005 + 1442695040888963407
	return int(uint64(*n)>>33) % m
}

// some is an inode by chance, that mostly may be.
func (n *numbers) some() Inode {
	name := make([]byte, 1+n.below(96))
	for k := range name {
		name[k] = byte(n.below(256))
	}
	i := Inode{Name: string(name)}
	left := n.below(129)
	at := 0
	for k := n.below(8); left > 0; k++ {
		x := api.Extent{First: at + n.below(300), Count: 1 + n.below(left)}
		if k > 7 {
			x.Count = left
		}
		at = x.First + x.Count
		left -= x.Count
		i.Extents = append(i.Extents, x)
		i.Size += 512 * x.Count
	}
	if i.Size > 0 {
		i.Size -= n.below(512)
	}
	for k := range i.Extents {
		j := n.below(k + 1)
		i.Extents[k], i.Extents[j] = i.Extents[j], i.Extents[k]
	}
	switch n.below(12) {
	case 0:
		i.Size += n.below(1025) - 512
	case 1:
		if len(i.Extents) > 0 {
			i.Extents[n.below(len(i.Extents))].First = n.below(4200) - 20
		}
	case 2:
		if len(i.Extents) > 0 {
			i.Extents[n.below(len(i.Extents))].Count += n.below(3) - 1
		}
	}
	return i
}

// P9.1 to P9.3: many by chance are as the chapter's words have them.
func TestAsTheModel(t *testing.T) {
	n := numbers(9)
	done := map[bool]int{}
	for range 20000 {
		i := n.some()
		ok := mayBe(i)
		done[ok]++
		want, s := api.ErrArg, ""
		if ok {
			want, s = api.OK, whole(head(i))
		}
		if e := Check(i); e != want {
			t.Fatalf("Check(%v) is %v", i, e)
		}
		if x, e := Put(i); e != want || x != s {
			t.Fatalf("Put(%v) is %q, %v", i, x, e)
		}
		if !ok {
			continue
		}
		if x, there, e := Get(s); !there || e != api.OK || !Same(x, i) || !Same(i, x) {
			t.Fatalf("Get of Put(%v) is %v, %v, %v", i, x, there, e)
		}
	}
	if done[true] < 10000 || done[false] < 1000 {
		t.Error(done)
	}
}

// P9.2: many bytes by chance, whose CRC-32 is right, are got just if they are an inode's.
func TestBytesAsTheModel(t *testing.T) {
	n := numbers(3)
	done := map[bool]int{}
	for range 40000 {
		b := head(n.some())
		for range n.below(3) {
			b[[]int{0, n.below(97), 97, 98, 99, 100, 101, 102 + n.below(32)}[n.below(8)]] = byte(n.below(256) * n.below(2))
		}
		s := whole(b)
		i, ok := told(s)
		ok = ok && mayBe(i) && whole(head(i)) == s
		done[ok]++
		x, there, e := Get(s)
		if ok && (!there || e != api.OK || !Same(x, i)) {
			t.Fatalf("Get(%q) is %v, %v, %v", s, x, there, e)
		}
		if !ok {
			nothing(t, "no inode's", s)
		}
	}
	if done[true] < 5000 || done[false] < 5000 {
		t.Error(done)
	}
}

// R4: what is handed in stays, and what is got is the caller's own.
func TestLists(t *testing.T) {
	l := []api.Extent{{First: 9, Count: 1}, {First: 7, Count: 1}, {First: 30, Count: 1}}
	i := Inode{Name: "a", Size: 1024, Extents: l[:2]}
	Check(i)
	Same(i, i)
	s, e := Put(i)
	if e != api.OK || !slices.Equal(l, []api.Extent{{First: 9, Count: 1}, {First: 7, Count: 1}, {First: 30, Count: 1}}) {
		t.Errorf("%v, %v", l, e)
	}
	l[0].First = 100
	if x, there, e := Get(s); !there || e != api.OK || !Same(x, of("a", 1024, 9, 1, 7, 1)) {
		t.Errorf("%v, %v, %v", x, there, e)
	} else {
		x.Extents[0] = api.Extent{First: 4, Count: 4}
		_ = append(x.Extents[:1], api.Extent{First: 5, Count: 5})
	}
	if x, there, e := Get(s); !there || e != api.OK || !Same(x, of("a", 1024, 9, 1, 7, 1)) {
		t.Errorf("got again: %v, %v, %v", x, there, e)
	}
}

// The chapter's examples.
func TestExamples(t *testing.T) {
	s, e := Put(of("a", 600, 7, 2))
	if e != api.OK || len(s) != Bytes || Bytes != 256 || !bytes.HasPrefix([]byte(s), []byte{1, 'a', 0}) {
		t.Errorf("%q, %v", s, e)
	}
	if e := Check(of("a", 2000, 7, 2)); e != api.ErrArg {
		t.Error(e)
	}
	if e := Check(of("a", 600, 7, 1, 7, 1)); e != api.ErrArg {
		t.Error(e)
	}
	if _, there, e := Get(strings.Repeat("\x00", 256)); there || e != api.OK {
		t.Error(there, e)
	}
	if _, there, e := Get(strings.Repeat("\x00", 255)); there || e != api.ErrForm {
		t.Error(there, e)
	}
}
