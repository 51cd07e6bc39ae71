package nums

import (
	"math"
	"math/big"
	"testing"
)

// edges are numbers about the bounds that the chapter names, and about those of the integers.
var edges = []int{
	math.MinInt, math.MinInt + 1, -1 << 62, -1<<32 - 1, -513, -2, -1,
	0, 1, 2, 3, 99, 100, 101, 511, 512, 513,
	1<<31 - 1, 1 << 31, 1<<31 + 1, 1<<32 - 1, 1 << 32, 1<<32 + 1,
	1<<61 - 1, 1 << 61, 1<<61 + 1,
	1<<62 - 2, 1<<62 - 1, 1 << 62, 1<<62 + 1, 1<<62 + 2,
	math.MaxInt - 511, math.MaxInt - 1, math.MaxInt,
}

// unbounded reckons with numbers that have no range of their own, and tells those that are within.
func unbounded(step func(n, x *big.Int), first int, rest ...int) (int, bool) {
	limit := new(big.Int).Lsh(big.NewInt(1), 62)
	fits := func(n *big.Int) bool { return n.Sign() >= 0 && n.Cmp(limit) <= 0 }
	n := big.NewInt(int64(first))
	all := fits(n)
	for _, r := range rest {
		x := big.NewInt(int64(r))
		all = all && fits(x)
		step(n, x)
	}
	if !all || !fits(n) {
		return 0, false
	}
	return int(n.Int64()), true
}

func plus(n, x *big.Int)  { n.Add(n, x) }
func minus(n, x *big.Int) { n.Sub(n, x) }
func times(n, x *big.Int) { n.Mul(n, x) }

// P1.1: the document's own examples.
func TestAddSubMulExamples(t *testing.T) {
	for _, x := range []struct {
		name string
		f    func(a, b int) (int, bool)
		a, b int
		n    int
		ok   bool
	}{
		{"Add", Add, 1 << 62, 0, 1 << 62, true},
		{"Add", Add, 1 << 62, 1, 0, false},
		{"Add", Add, -1, 3, 0, false},
		{"Add", Add, 3, -1, 0, false},
		{"Add", Add, 1<<62 + 1, 0, 0, false},
		{"Add", Add, 1 << 62, 1 << 62, 0, false},
		{"Add", Add, 40, 2, 42, true},
		{"Sub", Sub, 5, 3, 2, true},
		{"Sub", Sub, 3, 5, 0, false},
		{"Sub", Sub, 5, 5, 0, true},
		{"Sub", Sub, 5, -1, 0, false},
		{"Sub", Sub, 1 << 62, 1 << 62, 0, true},
		{"Sub", Sub, 1<<62 + 1, 1, 0, false},
		{"Sub", Sub, 1<<62 + 1, 1<<62 + 1, 0, false},
		{"Mul", Mul, 6, 7, 42, true},
		{"Mul", Mul, 1 << 31, 1 << 31, 1 << 62, true},
		{"Mul", Mul, 1 << 32, 1 << 31, 0, false},
		{"Mul", Mul, 1 << 32, 1 << 32, 0, false},
		{"Mul", Mul, 1<<62 - 1, 4, 0, false},
		{"Mul", Mul, 0, 1<<62 + 1, 0, false},
		{"Mul", Mul, -1, 0, 0, false},
		{"Mul", Mul, -2, -3, 0, false},
		{"Mul", Mul, 0, 1 << 62, 0, true},
		{"Mul", Mul, 1 << 62, 1, 1 << 62, true},
	} {
		if n, ok := x.f(x.a, x.b); n != x.n || ok != x.ok {
			t.Errorf("%s(%d, %d) = %d, %t; want %d, %t", x.name, x.a, x.b, n, ok, x.n, x.ok)
		}
	}
}

// P1.1: each pair of edges, held against numbers without a range.
func TestAddSubMulEdges(t *testing.T) {
	for _, x := range []struct {
		name string
		f    func(a, b int) (int, bool)
		step func(n, x *big.Int)
	}{{"Add", Add, plus}, {"Sub", Sub, minus}, {"Mul", Mul, times}} {
		for _, a := range edges {
			for _, b := range edges {
				want, wantOk := unbounded(x.step, a, b)
				if n, ok := x.f(a, b); n != want || ok != wantOk {
					t.Errorf("%s(%d, %d) = %d, %t; want %d, %t", x.name, a, b, n, ok, want, wantOk)
				}
			}
		}
	}
}

// P1.1: Mul just up to, and just beyond, what each factor allows.
func TestMulBesideTheBound(t *testing.T) {
	for a := 1; a <= 3000; a++ {
		b := (1 << 62) / a
		if n, ok := Mul(a, b); n != a*b || !ok {
			t.Errorf("Mul(%d, %d) = %d, %t", a, b, n, ok)
		}
		if n, ok := Mul(a, b+1); n != 0 || ok {
			t.Errorf("Mul(%d, %d) = %d, %t", a, b+1, n, ok)
		}
	}
}

// P1.1: Sum of none, of ordinary numbers, and where a number, or the sum, is not within.
func TestSum(t *testing.T) {
	for _, x := range []struct {
		l  []int
		n  int
		ok bool
	}{
		{nil, 0, true},
		{[]int{}, 0, true},
		{[]int{7}, 7, true},
		{[]int{1, 2, 3, 4}, 10, true},
		{[]int{0, 0, 0}, 0, true},
		{[]int{1 << 62}, 1 << 62, true},
		{[]int{1 << 62, 0, 0}, 1 << 62, true},
		{[]int{1 << 61, 1 << 61}, 1 << 62, true},
		{[]int{1 << 61, 1 << 61, 1}, 0, false},
		{[]int{1<<62 + 1}, 0, false},
		{[]int{-1}, 0, false},
		{[]int{5, -1}, 0, false},
		{[]int{-1, 5}, 0, false},
		{[]int{1 << 62, 1, -1}, 0, false},
		{[]int{1 << 62, 1 << 62}, 0, false},
		// Their sums, as the integers' range has them, are 0 and 4.
		{[]int{1 << 62, 1 << 62, 1 << 62, 1 << 62}, 0, false},
		{[]int{1 << 62, 1 << 62, 1 << 62, 1 << 62, 4}, 0, false},
		{[]int{math.MaxInt, math.MaxInt, 2}, 0, false},
		{[]int{math.MinInt, math.MinInt}, 0, false},
	} {
		if n, ok := Sum(x.l); n != x.n || ok != x.ok {
			t.Errorf("Sum(%v) = %d, %t; want %d, %t", x.l, n, ok, x.n, x.ok)
		}
	}
}

// P1.1: Sum of three edges, held against numbers without a range.
func TestSumEdges(t *testing.T) {
	for _, a := range edges {
		for _, b := range edges {
			for _, c := range edges {
				want, wantOk := unbounded(plus, a, b, c)
				if n, ok := Sum([]int{a, b, c}); n != want || ok != wantOk {
					t.Errorf("Sum(%d, %d, %d) = %d, %t; want %d, %t", a, b, c, n, ok, want, wantOk)
				}
			}
		}
	}
}

// P1.1, R4: what is handed to Sum stays as it was.
func TestSumLeavesTheList(t *testing.T) {
	l := []int{3, 1 << 62, 2, -1}
	Sum(l)
	for i, x := range []int{3, 1 << 62, 2, -1} {
		if l[i] != x {
			t.Errorf("place %d is %d", i, l[i])
		}
	}
}

// P1.2: Blocks, about each edge of a sector and of the integers' range.
func TestBlocks(t *testing.T) {
	for _, x := range [][2]int{
		{math.MinInt, 0}, {-513, 0}, {-512, 0}, {-1, 0}, {0, 0},
		{1, 1}, {2, 1}, {511, 1}, {512, 1}, {513, 2}, {1023, 2}, {1024, 2}, {1025, 3},
		{1 << 21, 4096}, {1<<21 + 1, 4097},
		{1 << 62, 1 << 53}, {1<<62 + 1, 1<<53 + 1},
		{math.MaxInt - 511, 1<<54 - 1}, {math.MaxInt - 510, 1 << 54}, {math.MaxInt, 1 << 54},
	} {
		if n := Blocks(x[0]); n != x[1] {
			t.Errorf("Blocks(%d) = %d; want %d", x[0], n, x[1])
		}
	}
}

// P1.2: so many sectors hold the bytes, and one less does not.
func TestBlocksAreJustEnough(t *testing.T) {
	for bytes := 1; bytes <= 5000; bytes++ {
		n := Blocks(bytes)
		if n*512 < bytes || (n-1)*512 >= bytes {
			t.Errorf("Blocks(%d) = %d", bytes, n)
		}
	}
}

// P1.2: Share of ordinary numbers, and of such as may not be.
func TestShare(t *testing.T) {
	for _, x := range [][3]int{
		{1, 3, 33}, {2, 3, 66}, {3, 3, 100}, {5, 3, 100}, {0, 3, 0},
		{1, 200, 0}, {1, 101, 0}, {1, 100, 1}, {99, 100, 99}, {199, 200, 99},
		{1, 1, 100}, {0, 1, 0},
		{1, 0, 0}, {0, 0, 0}, {-1, 3, 0}, {3, -3, 0}, {-3, -3, 0}, {-6, -3, 0},
		{math.MinInt, 1, 0}, {1, math.MinInt, 0}, {math.MaxInt, 0, 0}, {math.MaxInt, -1, 0},
		{1 << 62, 1 << 62, 100}, {1 << 61, 1 << 62, 50}, {1<<62 - 1, 1 << 62, 99},
		{1, 1 << 62, 0}, {1 << 62, 1, 100},
		{math.MaxInt, math.MaxInt, 100}, {math.MaxInt - 1, math.MaxInt, 99}, {1 << 62, math.MaxInt, 50},
		{math.MaxInt, 1, 100},
	} {
		if n := Share(x[0], x[1]); n != x[2] {
			t.Errorf("Share(%d, %d) = %d; want %d", x[0], x[1], n, x[2])
		}
	}
}

// P1.2: Share of each pair of edges, held against numbers without a range.
func TestShareEdges(t *testing.T) {
	for _, part := range edges {
		for _, whole := range edges {
			want := 0
			if whole >= 1 && part >= 0 {
				q := new(big.Int).Mul(big.NewInt(int64(part)), big.NewInt(100))
				q.Div(q, big.NewInt(int64(whole)))
				want = 100
				if q.Cmp(big.NewInt(100)) < 0 {
					want = int(q.Int64())
				}
			}
			if n := Share(part, whole); n != want {
				t.Errorf("Share(%d, %d) = %d; want %d", part, whole, n, want)
			}
		}
	}
}

// lists are numbers whose sums are within, are the bound itself, are beyond it, or are none.
var lists = [][]int{
	{},
	{9},
	{4, 0, 7, 1, 1},
	{1 << 61, 1 << 60, 1 << 60, 0},
	{1 << 61, 1 << 60, 1 << 60, 1},
	{1<<62 - 3, 1, 1, 1},
	{1<<62 - 3, 1, 1, 2},
	{1 << 62, 1 << 62, 1 << 62, 1 << 62},
	{1 << 62, 1, -1},
	{3, -1, 5},
	{0, 1<<62 + 1, 0},
}

// eachOrder hands on l in each of its orders.
func eachOrder(l []int, done int, f func([]int)) {
	if done == len(l) {
		f(l)
		return
	}
	for i := done; i < len(l); i++ {
		l[done], l[i] = l[i], l[done]
		eachOrder(l, done+1, f)
		l[done], l[i] = l[i], l[done]
	}
}

// P1.3: in any order numbers have one sum.
func TestOneSumInAnyOrder(t *testing.T) {
	for _, l := range lists {
		want, wantOk := Sum(l)
		eachOrder(append([]int(nil), l...), 0, func(o []int) {
			if n, ok := Sum(o); n != want || ok != wantOk {
				t.Errorf("Sum(%v) = %d, %t; of %v it is %d, %t", o, n, ok, l, want, wantOk)
			}
		})
	}
}

// P1.3: parted in any way, cut or picked, numbers have one sum.
func TestOneSumInAnyParts(t *testing.T) {
	for _, l := range lists {
		want, wantOk := Sum(l)
		for picked := 0; picked < 1<<len(l); picked++ {
			var a, b []int
			for i, x := range l {
				if picked>>i&1 == 1 {
					a = append(a, x)
				} else {
					b = append(b, x)
				}
			}
			if n, ok := sumOfParts(a, b); n != want || ok != wantOk {
				t.Errorf("%v and %v come to %d, %t; want %d, %t", a, b, n, ok, want, wantOk)
			}
		}
	}
}

// sumOfParts is Add of the sums of both; false, if one of these is none.
func sumOfParts(a, b []int) (int, bool) {
	m, mOk := Sum(a)
	n, nOk := Sum(b)
	if !mOk || !nOk {
		return 0, false
	}
	return Add(m, n)
}

// P1.3: numbers that are added one by one come to their sum.
func TestSumIsAddOneByOne(t *testing.T) {
	for _, l := range lists {
		n, ok := 0, true
		for _, x := range l {
			if ok {
				n, ok = Add(n, x)
			}
		}
		if want, wantOk := Sum(l); n != want || ok != wantOk {
			t.Errorf("%v: one by one %d, %t; Sum %d, %t", l, n, ok, want, wantOk)
		}
	}
}

// P1.3: what is added, and taken away again, is what there was.
func TestAddedAndTakenAway(t *testing.T) {
	for _, a := range edges {
		for _, b := range edges {
			n, ok := Add(a, b)
			if !ok {
				continue
			}
			if x, ok := Sub(n, b); x != a || !ok {
				t.Errorf("Sub(Add(%d, %d), %d) = %d, %t", a, b, b, x, ok)
			}
			if x, ok := Sub(n, a); x != b || !ok {
				t.Errorf("Sub(Add(%d, %d), %d) = %d, %t", a, b, a, x, ok)
			}
		}
	}
}

// P1.3: what is taken away, and added again, is what there was.
func TestTakenAwayAndAdded(t *testing.T) {
	for _, a := range edges {
		for _, b := range edges {
			n, ok := Sub(a, b)
			if !ok {
				continue
			}
			if x, ok := Add(n, b); x != a || !ok {
				t.Errorf("Add(Sub(%d, %d), %d) = %d, %t", a, b, b, x, ok)
			}
		}
	}
}
