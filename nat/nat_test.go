package nat

import (
	"math"
	"math/big"
	"math/rand/v2"
	"slices"
	"testing"

	"letterbag/api"
)

// repeated returns n equal limbs.
func repeated(n int, of uint32) []uint32 {
	l := make([]uint32, n)
	for i := range l {
		l[i] = of
	}
	return l
}

// bit returns the number 2^n.
func bit(n int) []uint32 {
	return append(make([]uint32, n/32), 1<<(n%32))
}

// greatest returns the greatest natural number.
func greatest() []uint32 { return repeated(MaxLimbs, math.MaxUint32) }

// noNumbers returns limbs that are no natural numbers.
func noNumbers() [][]uint32 {
	return [][]uint32{{0}, {5, 0}, {0, 0}, {1, 2, 0}, append(repeated(MaxLimbs-1, 7), 0), append(greatest(), 0), append(greatest(), 1), repeated(MaxLimbs+1, 0), repeated(4*MaxLimbs, 1)}
}

// edges are limbs at which something is carried, borrowed or guessed wrongly.
var edges = []uint32{0, 0, 1, 2, 9, 1 << 31, 1<<31 - 1, 1<<31 + 1, math.MaxUint32, math.MaxUint32, math.MaxUint32 - 1, 999999999, 1000000000}

// some returns a number of n limbs, many of which are at the edges.
func some(random *rand.Rand, n int) []uint32 {
	a := make([]uint32, n)
	often := random.IntN(5)
	for i := range a {
		a[i] = random.Uint32() >> random.IntN(32)
		if random.IntN(4) < often {
			a[i] = edges[random.IntN(len(edges))]
		}
	}
	if n > 0 && a[n-1] == 0 {
		a[n-1] = 1 + random.Uint32()>>1
	}
	return a
}

// numbers returns natural numbers near the bounds, near 0, and in between.
func numbers() [][]uint32 {
	random := rand.New(rand.NewPCG(3, 4))
	l := [][]uint32{nil, {}, {1}, {2}, {10}, {math.MaxUint32}, {0, 1}, {1, 1}, {math.MaxUint32, math.MaxUint32}, {0, 0, 1}, {0, 1 << 31}, greatest(), bit(MaxLimbs*32 - 1), bit(16384), repeated(512, math.MaxUint32)}
	for _, n := range []int{1, 1, 1, 2, 2, 2, 3, 3, 4, 5, 8, 13, 40, 100, 511, 512, 513, 1000, 1023, MaxLimbs} {
		l = append(l, some(random, n))
	}
	return l
}

// exact returns the value of limbs.
func exact(a []uint32) *big.Int {
	n := new(big.Int)
	for i := len(a) - 1; i >= 0; i-- {
		n.Lsh(n, 32).Or(n, big.NewInt(int64(a[i])))
	}
	return n
}

// check fails unless a result is the number with this value; or, if that is too long, nothing but ErrLong.
func check(t *testing.T, what string, got []uint32, e api.Errno, want *big.Int) {
	t.Helper()
	if want.BitLen() > 32*MaxLimbs {
		if len(got) != 0 || e != api.ErrLong {
			t.Fatalf("%s: %d limbs, %d, not ErrLong", what, len(got), e)
		}
		return
	}
	if e != api.OK || !Right(got) || exact(got).Cmp(want) != 0 {
		t.Fatalf("%s = %v, %d, not %v", what, got, e, want)
	}
}

// P3.1
func TestRight(t *testing.T) {
	for i, a := range append(numbers(), []uint32{0, 0, 5}, append(make([]uint32, MaxLimbs-1), 1)) {
		if !Right(a) {
			t.Errorf("Right of number %d is false", i)
		}
	}
	for i, a := range noNumbers() {
		if Right(a) {
			t.Errorf("Right of %d is true", i)
		}
	}
}

// P3.1
func TestOfAndUint(t *testing.T) {
	for _, c := range []struct {
		n uint64
		a []uint32
	}{
		{0, nil}, {1, []uint32{1}}, {77, []uint32{77}}, {math.MaxUint32, []uint32{math.MaxUint32}},
		{1 << 32, []uint32{0, 1}}, {1<<32 + 1, []uint32{1, 1}}, {5<<32 + 3, []uint32{3, 5}}, {1 << 63, []uint32{0, 1 << 31}},
		{math.MaxUint64 - 1, []uint32{math.MaxUint32 - 1, math.MaxUint32}}, {math.MaxUint64, []uint32{math.MaxUint32, math.MaxUint32}},
	} {
		if a := Of(c.n); !slices.Equal(a, c.a) || !Right(a) {
			t.Errorf("Of(%d) = %v", c.n, a)
		}
		if n, ok := Uint(c.a); n != c.n || !ok {
			t.Errorf("Uint(%v) = %d, %v", c.a, n, ok)
		}
	}
	for i, a := range append(noNumbers(), []uint32{0, 0, 1}, []uint32{1, 2, 3}, bit(96), greatest()) {
		if n, ok := Uint(a); n != 0 || ok {
			t.Errorf("Uint of %d: %d, %v", i, n, ok)
		}
	}
	a, b := Of(1<<40), Of(1<<40)
	a[0] = 5
	if !slices.Equal(b, []uint32{0, 256}) {
		t.Error("numbers share memory:", b)
	}
}

// P3.2
func TestCmp(t *testing.T) {
	for _, a := range numbers() {
		for _, b := range numbers() {
			if got, e := Cmp(a, b); got != exact(a).Cmp(exact(b)) || e != api.OK {
				t.Errorf("Cmp(%v, %v) = %d, %d", a, b, got, e)
			}
		}
	}
	for _, c := range []struct {
		a, b []uint32
		want int
	}{
		{nil, []uint32{}, 0}, {nil, []uint32{1}, -1}, {[]uint32{1}, nil, 1}, {[]uint32{7}, []uint32{7}, 0},
		{[]uint32{9, 1}, []uint32{1, 2}, -1}, {[]uint32{1, 2}, []uint32{9, 1}, 1}, // the highest limb counts first
		{[]uint32{1, 2, 3}, []uint32{1, 1, 3}, 1}, {[]uint32{1, 2, 3}, []uint32{2, 2, 3}, -1},
		{[]uint32{math.MaxUint32}, []uint32{0, 1}, -1}, {[]uint32{1 << 31}, []uint32{1}, 1},
	} {
		if got, e := Cmp(c.a, c.b); got != c.want || e != api.OK {
			t.Errorf("Cmp(%v, %v) = %d, %d", c.a, c.b, got, e)
		}
	}
}

// P3.2 to P3.4: limbs that are no natural number are ErrArg, ahead of every other error.
func TestNoNumbers(t *testing.T) {
	two := map[string]func(a, b []uint32) ([]uint32, api.Errno){
		"Add": Add, "Sub": Sub, "Mul": Mul,
		"Cmp":      func(a, b []uint32) ([]uint32, api.Errno) { n, e := Cmp(a, b); return repeated(n*n, 1), e },
		"DivMod":   func(a, b []uint32) ([]uint32, api.Errno) { q, _, e := DivMod(a, b); return q, e },
		"... rest": func(a, b []uint32) ([]uint32, api.Errno) { _, r, e := DivMod(a, b); return r, e },
	}
	for name, f := range two {
		for i, a := range noNumbers() {
			for k, b := range append([][]uint32{nil, {1}, {3, 4}, greatest()}, noNumbers()...) {
				if got, e := f(a, b); len(got) != 0 || e != api.ErrArg {
					t.Errorf("%s of %d and %d: %v, %d", name, i, k, got, e)
				}
				if got, e := f(b, a); len(got) != 0 || e != api.ErrArg {
					t.Errorf("%s of %d and %d: %v, %d", name, k, i, got, e)
				}
			}
		}
	}
	for i, a := range noNumbers() {
		for _, n := range []int{-1, 0, 1, 2, math.MaxInt, math.MinInt} {
			if got, e := Pow(a, n); len(got) != 0 || e != api.ErrArg {
				t.Errorf("Pow of %d and %d: %v, %d", i, n, got, e)
			}
		}
	}
}

// P3.2
func TestAddAndSub(t *testing.T) {
	for _, a := range numbers() {
		for _, b := range numbers() {
			x, y := exact(a), exact(b)
			sum, e := Add(a, b)
			check(t, "Add", sum, e, new(big.Int).Add(x, y))
			difference, e := Sub(a, b)
			if x.Cmp(y) >= 0 {
				check(t, "Sub", difference, e, new(big.Int).Sub(x, y))
			} else if len(difference) != 0 || e != api.ErrArg {
				t.Fatalf("Sub of a less number: %v, %d", difference, e)
			}
		}
	}
}

// P3.2
func TestAddEdges(t *testing.T) {
	for i, c := range []struct {
		a, b, want []uint32
		e          api.Errno
	}{
		{nil, nil, nil, api.OK},
		{nil, []uint32{4}, []uint32{4}, api.OK},
		{[]uint32{math.MaxUint32}, []uint32{1}, []uint32{0, 1}, api.OK},
		{[]uint32{math.MaxUint32}, []uint32{math.MaxUint32}, []uint32{math.MaxUint32 - 1, 1}, api.OK},
		{[]uint32{math.MaxUint32, math.MaxUint32, 6}, []uint32{1}, []uint32{0, 0, 7}, api.OK},
		{[]uint32{1}, []uint32{math.MaxUint32, math.MaxUint32}, []uint32{0, 0, 1}, api.OK},
		{greatest(), nil, greatest(), api.OK},
		{greatest(), []uint32{1}, nil, api.ErrLong},
		{[]uint32{1}, greatest(), nil, api.ErrLong},
		{greatest(), greatest(), nil, api.ErrLong},
		{bit(32767), bit(32767), nil, api.ErrLong},
		{bit(32766), bit(32766), bit(32767), api.OK},
	} {
		if got, e := Add(c.a, c.b); !slices.Equal(got, c.want) || e != c.e {
			t.Errorf("Add %d = %v, %d", i, got, e)
		}
	}
}

// P3.2
func TestSubEdges(t *testing.T) {
	for i, c := range []struct {
		a, b, want []uint32
		e          api.Errno
	}{
		{nil, nil, nil, api.OK},
		{[]uint32{4}, nil, []uint32{4}, api.OK},
		{[]uint32{4}, []uint32{4}, nil, api.OK},
		{[]uint32{1}, []uint32{2}, nil, api.ErrArg},
		{nil, []uint32{1}, nil, api.ErrArg},
		{[]uint32{math.MaxUint32}, []uint32{0, 1}, nil, api.ErrArg},
		{[]uint32{0, 1}, []uint32{1}, []uint32{math.MaxUint32}, api.OK},
		{[]uint32{0, 0, 7}, []uint32{1}, []uint32{math.MaxUint32, math.MaxUint32, 6}, api.OK},
		{[]uint32{0, 0, 1}, []uint32{1}, []uint32{math.MaxUint32, math.MaxUint32}, api.OK},
		{[]uint32{5, 6, 7}, []uint32{4, 6, 7}, []uint32{1}, api.OK},
		{[]uint32{0, 5}, []uint32{math.MaxUint32, 4}, []uint32{1}, api.OK},
		{greatest(), greatest(), nil, api.OK},
		{greatest(), nil, greatest(), api.OK},
	} {
		if got, e := Sub(c.a, c.b); !slices.Equal(got, c.want) || e != c.e {
			t.Errorf("Sub %d = %v, %d", i, got, e)
		}
	}
}

// P3.1 to P3.5: arguments and what lies behind them stay as they are, and results are new.
func TestNothingIsShared(t *testing.T) {
	results := func(a, b []uint32) [][]uint32 {
		var l [][]uint32
		keep := func(got []uint32, e api.Errno) {
			if e != api.OK {
				t.Fatal(a, b, e)
			}
			l = append(l, got)
		}
		keep(Add(a, b))
		keep(Sub(a, b))
		keep(Mul(a, b))
		for n := range 4 {
			keep(Pow(a, n))
		}
		quotient, rest, e := DivMod(a, b)
		keep(quotient, e)
		keep(rest, e)
		quotient, rest, e = DivMod(b, a)
		keep(quotient, e)
		keep(rest, e)
		s, e := Text(a)
		keep(nil, e)
		keep(Read(s))
		if order, e := Cmp(a, b); order < 0 || e != api.OK || !Right(a) {
			t.Fatal(a, b, order, e)
		}
		Uint(a)
		return l
	}
	for _, c := range [][2][]uint32{{{7}, {3}}, {{1, 2, 3}, {4, 5}}, {{1 << 31, 9}, {1 << 31, 9}}, {{0, 0, 0, 1}, {1}}, {{5, 6, 1 << 31}, {7, 1 << 31}}} {
		first := append(slices.Clone(c[0]), 42, 43)
		second := append(slices.Clone(c[1]), 44, 45)
		keptFirst, keptSecond := slices.Clone(first), slices.Clone(second)
		a, b := first[:len(c[0])], second[:len(c[1])]
		got, again := results(a, b), results(a, b)
		for i, l := range got {
			l = l[:cap(l)]
			for k := range l {
				l[k] = 99
			}
			for k, other := range got[i+1:] {
				if slices.ContainsFunc(other, func(n uint32) bool { return n == 99 }) {
					t.Errorf("results %d and %d of %v share memory", i, i+1+k, c)
				}
			}
		}
		if !slices.Equal(first, keptFirst) || !slices.Equal(second, keptSecond) {
			t.Error("modified:", first, second)
		}
		for i, l := range results(a, b) {
			if !slices.Equal(l, again[i]) {
				t.Errorf("result %d of %v shares memory", i, c)
			}
		}
	}
}
