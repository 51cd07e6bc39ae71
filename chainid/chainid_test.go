package chainid

import (
	"crypto/sha256"
	"encoding/hex"
	"fmt"
	"slices"
	"testing"

	"lighter/api"
)

const bytesOf = 32 // a digest

// one is a digest of a byte, and zeros behind it.
func one(b byte) (d api.Digest) {
	d[0] = b
	return d
}

// all is a digest of one byte, 32 times.
func all(b byte) (d api.Digest) {
	for i := range d {
		d[i] = b
	}
	return d
}

// mixed is a digest that is unlike for each seed.
func mixed(seed uint32) (d api.Digest) {
	n := seed*2654435761 + 12345
	for i := range d {
		n = n*1664525 + 1013904223
		d[i] = byte(n >> 24)
	}
	return d
}

// with is a digest with another byte at one place.
func with(d api.Digest, at int, b byte) api.Digest {
	d[at] = b
	return d
}

// read is the digest of 64 digits.
func read(t *testing.T, digits string) (d api.Digest) {
	t.Helper()
	if n, err := hex.Decode(d[:], []byte(digits)); err != nil || n != bytesOf {
		t.Fatalf("%q: %d bytes, %v", digits, n, err)
	}
	return d
}

// nextOf is a layer's chain ID over another one, by the document's words.
func nextOf(parent, diff api.Digest) api.Digest {
	return sha256.Sum256(fmt.Appendf(nil, "sha256:%x sha256:%x", parent[:], diff[:]))
}

// chainOf is the last of some layers' chain IDs, by the document's words; there is one at least.
func chainOf(diffs []api.Digest) api.Digest {
	last := len(diffs) - 1
	if last == 0 {
		return diffs[0]
	}
	return nextOf(chainOf(diffs[:last]), diffs[last])
}

// chainsOf are all of them.
func chainsOf(diffs []api.Digest) []api.Digest {
	var l []api.Digest
	for i := range diffs {
		l = append(l, chainOf(diffs[:i+1]))
	}
	return l
}

// sharedOf is the greatest count of which both have as many, the same, at the front.
func sharedOf(a, b []api.Digest) int {
	count := 0
	for n := range min(len(a), len(b)) + 1 {
		if slices.Equal(a[:n], b[:n]) {
			count = n
		}
	}
	return count
}

// letters are three digests, two of which differ in the last bit alone; the first is zero.
var letters = []api.Digest{{}, with(api.Digest{}, bytesOf-1, 1), mixed(1)}

// listsOf are all lists of these, of up to so many.
func listsOf(letters []api.Digest, most int) [][]api.Digest {
	lists, ahead := [][]api.Digest{nil}, [][]api.Digest{nil}
	for range most {
		var longer [][]api.Digest
		for _, l := range ahead {
			for _, d := range letters {
				longer = append(longer, append(slices.Clone(l), d))
			}
		}
		lists, ahead = append(lists, longer...), longer
	}
	return lists
}

// many are so many digests, of a seed.
func many(count int, seed uint32) []api.Digest {
	var l []api.Digest
	for i := range count {
		l = append(l, mixed(seed*100003+uint32(i)))
	}
	return l
}

// same is a digest over and over.
func same(d api.Digest, count int) []api.Digest {
	return slices.Repeat([]api.Digest{d}, count)
}

// lists are such as the document names: of none, of one, of two, of many, of the same over and over.
func lists() [][]api.Digest {
	l := listsOf(letters, 4)
	for _, d := range []api.Digest{{}, all(255), one(1), mixed(2)} {
		for _, count := range []int{1, 2, 3, 7, 8, 9, 40} {
			l = append(l, same(d, count))
		}
	}
	for count := range 20 {
		l = append(l, many(count, uint32(count)))
	}
	return append(l, []api.Digest{}, many(300, 21))
}

// isNext fails, if Next of two tells otherwise.
func isNext(t *testing.T, parent, diff, want api.Digest) {
	t.Helper()
	if d := Next(parent, diff); d != want {
		t.Errorf("Next(%x, %x) = %x; want %x", parent, diff, d, want)
	}
}

// isShared fails, if Shared of two tells otherwise, whichever stands first.
func isShared(t *testing.T, what string, a, b []api.Digest, want int) {
	t.Helper()
	if n := Shared(a, b); n != want {
		t.Errorf("%s: Shared of %d and %d: %d; want %d", what, len(a), len(b), n, want)
	}
	if n := Shared(b, a); n != want {
		t.Errorf("%s: Shared of %d and %d: %d; want %d", what, len(b), len(a), n, want)
	}
}

// P17.1: of digests of which it is known from elsewhere: zero ones, one twice, two in either order.
func TestNextKnown(t *testing.T) {
	abc := read(t, "ba7816bf8f01cfea414140de5dae2223b00361a396177a9cb410ff61f20015ad")
	nothing := read(t, "e3b0c44298fc1c149afbf4c8996fb92427ae41e4649b934ca495991b7852b855")
	for _, x := range []struct {
		parent, diff api.Digest
		want         string
	}{
		{one(0), one(0), "1c549100e455eee76a4725b64270b19d7fa7aea704960d46363fffa8732d51b8"},
		{one(0), one(1), "c848c84b7868654e14b9ae41b99d0ccc543f92fbe3f3db050b8e67a839b950d6"},
		{one(1), one(0), "ec274b1afdb89c1bb6e7f202b11ef1f2636bfd7022c7f5b9ccd879d4f9fc6b78"},
		{one(1), one(1), "4ac6a658626a54f185422b0fb81566a87d22ce61ba70b9c4e01e9c3985c86576"},
		{one(1), one(2), "7085e9ae37b31b55654e2f289492982a36425cbcff70a830719befaea8d10ad2"},
		{one(2), one(1), "b7416be3cbdfeae8e58a26a195acc2b66802f648c11201407e11c83060077125"},
		{all(255), all(255), "d1e505caa08525c538042b7951b548ab4ee7677d5624ec05fedceaa43b2a8765"},
		{abc, nothing, "dd8ddd90bdf3ccbd91abd3f399218c9d93e91246734fab743933f42048ac3e2c"},
		{nothing, abc, "a893da35bd22286079f2f3931516d3423eb9b4945f2379e0f8a501ec3d665dd6"},
		{abc, abc, "95bbd0d1bf2f6edd073d53e1caa6d4b4778912f6b19bad7a45d56c58e23533bd"},
	} {
		want := read(t, x.want)
		isNext(t, x.parent, x.diff, want)
		if d := nextOf(x.parent, x.diff); d != want {
			t.Errorf("by the document's words Next(%x, %x) is %x; want %x", x.parent, x.diff, d, want)
		}
	}
}

// P17.1: of each byte at each place, as the parent and as the diff, and of others by chance.
func TestNext(t *testing.T) {
	for b := range 256 {
		for at := range bytesOf {
			for _, d := range []api.Digest{with(api.Digest{}, at, byte(b)), with(mixed(3), at, byte(b))} {
				for _, other := range []api.Digest{{}, mixed(4), d} {
					isNext(t, d, other, nextOf(d, other))
					isNext(t, other, d, nextOf(other, d))
				}
			}
		}
	}
	for seed := range uint32(500) {
		a, b := mixed(seed), mixed(seed+500)
		isNext(t, a, b, nextOf(a, b))
	}
}

// P17.1: of others, or in the other order, it is another one; it is neither of the two.
func TestNextDiffers(t *testing.T) {
	type pair struct{ parent, diff api.Digest }
	seen := map[api.Digest]pair{}
	add := func(p pair) {
		d := Next(p.parent, p.diff)
		if was, ok := seen[d]; ok && was != p {
			t.Errorf("Next(%x, %x) = Next(%x, %x)", p.parent, p.diff, was.parent, was.diff)
		}
		if d == p.parent || d == p.diff {
			t.Errorf("Next(%x, %x) is one of them", p.parent, p.diff)
		}
		seen[d] = p
	}
	for _, a := range append(many(8, 5), letters...) {
		for _, b := range append(many(8, 5), letters...) {
			add(pair{a, b})
		}
		for bit := range 8 * bytesOf {
			other := with(a, bit/8, a[bit/8]^1<<(bit%8))
			add(pair{a, other})
			add(pair{other, a})
		}
	}
}

// P17.2: the chapter's examples: of none, of one, of a and a.
func TestExamples(t *testing.T) {
	for _, none := range [][]api.Digest{nil, {}} {
		if l := Of(none); len(l) != 0 {
			t.Errorf("Of none: %x", l)
		}
		if d, ok := Top(none); ok || d != (api.Digest{}) {
			t.Errorf("Top of none: %x, %t", d, ok)
		}
	}
	for _, a := range append(many(20, 6), letters...) {
		if l := Of([]api.Digest{a}); !slices.Equal(l, []api.Digest{a}) {
			t.Errorf("Of %x alone: %x", a, l)
		}
		if d, ok := Top([]api.Digest{a}); !ok || d != a {
			t.Errorf("Top of %x alone: %x, %t", a, d, ok)
		}
		if l := Of([]api.Digest{a, a}); len(l) != 2 || l[0] != a || l[1] == a {
			t.Errorf("Of %x twice: %x", a, l)
		}
	}
}

// P17.2: of digests of which they are known from elsewhere.
func TestOfKnown(t *testing.T) {
	two := read(t, "7085e9ae37b31b55654e2f289492982a36425cbcff70a830719befaea8d10ad2")
	three := sha256.Sum256([]byte("sha256:7085e9ae37b31b55654e2f289492982a36425cbcff70a830719befaea8d10ad2" +
		" sha256:0100000000000000000000000000000000000000000000000000000000000000"))
	want := []api.Digest{one(1), two, three}
	if l := Of([]api.Digest{one(1), one(2), one(1)}); !slices.Equal(l, want) {
		t.Errorf("Of three: %x; want %x", l, want)
	}
	if d, ok := Top([]api.Digest{one(1), one(2), one(1)}); !ok || d != want[2] {
		t.Errorf("Top of three: %x, %t; want %x", d, ok, want[2])
	}
}

// P17.2: Of and Top by the document's words.
func TestOfAndTop(t *testing.T) {
	for _, diffs := range lists() {
		want := chainsOf(diffs)
		if l := Of(diffs); !slices.Equal(l, want) {
			t.Errorf("Of(%x) = %x; want %x", diffs, l, want)
		}
		var top api.Digest
		if len(want) > 0 {
			top = want[len(want)-1]
		}
		if d, ok := Top(diffs); ok != (len(diffs) > 0) || d != top {
			t.Errorf("Top(%x) = %x, %t; want %x", diffs, d, ok, top)
		}
	}
}

// P17.2: each one stands on the one ahead of it, of far more layers than an image has.
func TestOfVeryMany(t *testing.T) {
	for _, diffs := range [][]api.Digest{many(1<<16, 7), same(api.Digest{}, 1<<16)} {
		l := Of(diffs)
		if len(l) != len(diffs) || l[0] != diffs[0] {
			t.Fatalf("Of %d: %d, the first %x", len(diffs), len(l), l[0])
		}
		for i := 1; i < len(l); i++ {
			if want := nextOf(l[i-1], diffs[i]); l[i] != want {
				t.Fatalf("Of %d: %x at %d; want %x", len(diffs), l[i], i, want)
			}
		}
		if d, ok := Top(diffs); !ok || d != l[len(l)-1] {
			t.Errorf("Top of %d: %x, %t", len(diffs), d, ok)
		}
		isShared(t, "very many", diffs, slices.Clone(diffs), len(diffs))
		isShared(t, "very many, one less", diffs, diffs[:len(diffs)-1], len(diffs)-1)
	}
}

// P17.2: of the same digest over and over all are other ones.
func TestOfTheSame(t *testing.T) {
	for _, d := range []api.Digest{{}, all(255), mixed(8)} {
		seen := map[api.Digest]int{}
		for i, id := range Of(same(d, 200)) {
			if was, ok := seen[id]; ok {
				t.Errorf("Of %x over and over: the same at %d and %d", d, was, i)
			}
			seen[id] = i
		}
	}
}

// P17.2: where layers stand matters: in another order, or without one, the last ID is another one.
func TestTopTellsOrder(t *testing.T) {
	seen := map[api.Digest][]api.Digest{}
	for _, diffs := range listsOf(many(3, 9), 5) {
		top, _ := Top(diffs)
		if was, ok := seen[top]; ok {
			t.Errorf("Top of %x and of %x: %x", diffs, was, top)
		}
		seen[top] = diffs
	}
}

// P17.2: Shared of none, of one side alone, of the same, of a beginning of the other one.
func TestSharedBeginnings(t *testing.T) {
	for _, l := range lists() {
		isShared(t, "none", l, nil, 0)
		isShared(t, "none", l, []api.Digest{}, 0)
		isShared(t, "itself", l, l, len(l))
		isShared(t, "the same", l, slices.Clone(l), len(l))
		for n := range l {
			isShared(t, "a beginning", l, l[:n], n)
		}
	}
	isShared(t, "none at all", nil, nil, 0)
	isShared(t, "none at all", nil, []api.Digest{}, 0)
}

// P17.2: Shared of such as differ at one place, the first, the last and each amid, in one bit, and are the same again behind it.
func TestSharedDiffers(t *testing.T) {
	for _, count := range []int{1, 2, 3, 8, 9} {
		for _, l := range [][]api.Digest{many(count, 10), same(api.Digest{}, count), same(all(255), count)} {
			for at := range l {
				for bit := range 8 * bytesOf {
					other := slices.Clone(l)
					other[at][bit/8] ^= 1 << (bit % 8)
					isShared(t, "one differs", l, other, at)
					isShared(t, "one differs, and that is the end", l, other[:at+1], at)
					isShared(t, "one differs, and more is behind", l, append(other, l...), at)
				}
			}
		}
	}
}

// P17.2: Shared of such as have the same, but not at the same places.
func TestSharedElsewhere(t *testing.T) {
	l := many(6, 11)
	turned := append(slices.Clone(l[1:]), l[0])
	back := slices.Clone(l)
	slices.Reverse(back)
	isShared(t, "one place on", l, l[1:], 0)
	isShared(t, "turned", l, turned, 0)
	isShared(t, "from behind", l, back, 0)
	isShared(t, "the end alone", l, l[3:], 0)
	isShared(t, "one is laid in", l, slices.Insert(slices.Clone(l), 3, mixed(12)), 3)
	isShared(t, "one lacks", l, slices.Delete(slices.Clone(l), 3, 4), 3)
	isShared(t, "two in the other order", l, []api.Digest{l[0], l[1], l[3], l[2], l[4], l[5]}, 2)
	isShared(t, "the same over and over", same(l[0], 5), same(l[0], 9), 5)
}

// P17.2: Shared of all pairs of short lists, by the document's words.
func TestSharedOfAll(t *testing.T) {
	l := listsOf(letters, 4)
	for _, a := range l {
		for _, b := range l {
			isShared(t, "short lists", a, b, sharedOf(a, b))
		}
	}
}

// P17.3: layers that are the same from the front on have the same IDs from the front on, and just as far: behind that none is.
func TestSameFromTheFrontOn(t *testing.T) {
	l := listsOf(letters, 4)
	for _, a := range l {
		for _, b := range l {
			holdsShared(t, a, b)
		}
	}
	for _, count := range []int{1, 2, 8, 30} {
		a := many(count, 13)
		for at := range a {
			b := slices.Clone(a)
			b[at] = with(b[at], bytesOf-1, b[at][bytesOf-1]^1)
			holdsShared(t, a, b)
			holdsShared(t, a, b[:at+1])
			holdsShared(t, a, append(b, a...))
			holdsShared(t, a, a[:at])
		}
	}
}

// holdsShared fails, if the IDs of two are not the same as far as their layers are, and no further.
func holdsShared(t *testing.T, a, b []api.Digest) {
	t.Helper()
	x, y := Of(a), Of(b)
	n := sharedOf(a, b)
	if len(x) != len(a) || len(y) != len(b) || sharedOf(x, y) != n {
		t.Fatalf("Of %x and %x: %x and %x; the first %d are to be the same", a, b, x, y, n)
	}
	isShared(t, "of layers", a, b, n)
	isShared(t, "of IDs", x, y, n)
	for i := n; i < min(len(x), len(y)); i++ {
		if x[i] == y[i] {
			t.Errorf("Of %x and %x: the same at %d, though they differ at %d", a, b, i, n)
		}
	}
}

// P17.3: what is laid over layers changes nothing of their IDs, and Top tells the ID of as many as it is asked of.
func TestBeginnings(t *testing.T) {
	for _, diffs := range lists() {
		l := Of(diffs)
		for n := range len(diffs) + 1 {
			if ahead := Of(diffs[:n]); !slices.Equal(ahead, l[:n]) {
				t.Errorf("Of the first %d of %x: %x; of all of them: %x", n, diffs, ahead, l)
			}
			if d, ok := Top(diffs[:n]); n > 0 && (!ok || d != l[n-1]) {
				t.Errorf("Top of the first %d of %x: %x, %t; want %x", n, diffs, d, ok, l[n-1])
			}
		}
	}
}

// P17.2, R4: what is handed in stays as it was, also what stands behind it; what is told is the caller's own.
func TestListsAreOwn(t *testing.T) {
	for count := range 10 {
		room := many(count+5, 14)
		was := slices.Clone(room)
		diffs := room[:count]
		want := chainsOf(diffs)
		l, again := Of(diffs), Of(diffs)
		top, ok := Top(diffs)
		Shared(diffs, room)
		if !slices.Equal(room, was) {
			t.Fatalf("of %d: what was handed in is %x; it was %x", count, room, was)
		}
		clear(room)
		if !slices.Equal(l, want) || !slices.Equal(again, want) {
			t.Errorf("of %d: what was told changed with what was handed in: %x", count, l)
		}
		copy(room, was)
		clear(l)
		_ = append(l, one(9))
		if !slices.Equal(again, want) || !slices.Equal(room, was) {
			t.Errorf("of %d: what was told is not the caller's own", count)
		}
		if more := Of(diffs); !slices.Equal(more, want) {
			t.Errorf("of %d: told again: %x; want %x", count, more, want)
		}
		if d, is := Top(diffs); d != top || is != ok {
			t.Errorf("of %d: Top again: %x, %t; it was %x, %t", count, d, is, top, ok)
		}
	}
}

// P17.1, P17.2, R2: what is told hangs on what is handed in alone, whatever was asked ahead.
func TestToldAgain(t *testing.T) {
	a, b := mixed(15), mixed(16)
	diffs := []api.Digest{a, b, a}
	next, ids, shared := Next(a, b), Of(diffs), Shared(diffs, diffs[:2])
	for range 3 {
		Next(b, a)
		Of(many(8, 17))
		Top(nil)
		Shared(many(3, 17), many(3, 18))
		if Next(a, b) != next || !slices.Equal(Of(diffs), ids) || Shared(diffs, diffs[:2]) != shared {
			t.Errorf("told again: %x, %x, %d; it was %x, %x, %d", Next(a, b), Of(diffs), Shared(diffs, diffs[:2]), next, ids, shared)
		}
	}
}
