package stats

import (
	"math"
	"math/big"
	"slices"
	"testing"

	"letterbag/api"
	"letterbag/nat"
)

// shares has shares at the edges, and in between.
var shares = []int{0, 1, 2, 500, 2500, 3333, 4999, 5000, 5001, 7412, 9998, 9999, Whole}

// noShares has numbers that are no shares.
var noShares = []int{-1, Whole + 1, -Whole, 1 << 40, math.MinInt, math.MaxInt}

// exact returns the value of limbs.
func exact(a []uint32) *big.Int {
	n := new(big.Int)
	for i := len(a) - 1; i >= 0; i-- {
		n.Lsh(n, 32).Or(n, big.NewInt(int64(a[i])))
	}
	return n
}

// exactPower returns a power.
func exactPower(of, n int) *big.Int {
	return new(big.Int).Exp(big.NewInt(int64(of)), big.NewInt(int64(n)), nil)
}

// exactChance returns a chance by the words of the chapter.
func exactChance(n, k, share int) *big.Int {
	chance := new(big.Int).Binomial(int64(n), int64(k))
	chance.Mul(chance, exactPower(share, k))
	return chance.Mul(chance, exactPower(Whole-share, n-k))
}

// exactChances returns the chances of 0 to n.
func exactChances(n, share int) []*big.Int {
	l := make([]*big.Int, n+1)
	for k := range l {
		l[k] = exactChance(n, k, share)
	}
	return l
}

// exactSum returns a sum.
func exactSum(l []*big.Int) *big.Int {
	sum := new(big.Int)
	for _, n := range l {
		sum.Add(sum, n)
	}
	return sum
}

// check fails unless a result is the natural number with this value.
func check(t *testing.T, what string, n, k, share int, got []uint32, e api.Errno, want *big.Int) {
	t.Helper()
	if e != api.OK || !nat.Right(got) || exact(got).Cmp(want) != 0 {
		t.Fatalf("%s(%d, %d, %d) = %v, %d, not %v", what, n, k, share, got, e, want)
	}
}

// P4.1
func TestChoose(t *testing.T) {
	for _, c := range []struct{ n, k, want int }{{0, 0, 1}, {1, 0, 1}, {1, 1, 1}, {5, 2, 10}, {5, 3, 10}, {5, 5, 1}, {6, 3, 20}, {34, 17, 2333606220}, {35, 17, 4537567650}, {MaxTrials, 0, 1}, {MaxTrials, 1, MaxTrials}, {MaxTrials, 2, 124750}, {MaxTrials, MaxTrials - 1, MaxTrials}, {MaxTrials, MaxTrials, 1}} {
		got, e := Choose(c.n, c.k)
		check(t, "Choose", c.n, c.k, 0, got, e, big.NewInt(int64(c.want)))
	}
	for _, n := range []int{0, 1, 2, 3, 4, 7, 8, 31, 32, 33, 34, 35, 64, 67, 68, 100, 256, 499, MaxTrials} {
		for k := range n + 1 {
			got, e := Choose(n, k)
			check(t, "Choose", n, k, 0, got, e, new(big.Int).Binomial(int64(n), int64(k)))
		}
	}
}

// checkChances fails unless Chance, Upper and Lower have these chances of 0 to n for some k.
func checkChances(t *testing.T, n, share int, want []*big.Int, few []int) {
	t.Helper()
	for _, k := range few {
		got, e := Chance(n, k, share)
		check(t, "Chance", n, k, share, got, e, want[k])
		got, e = Upper(n, k, share)
		check(t, "Upper", n, k, share, got, e, exactSum(want[k:]))
		got, e = Lower(n, k, share)
		check(t, "Lower", n, k, share, got, e, exactSum(want[:k+1]))
	}
}

// P4.1: few trials, with every k; the shares 0 and Whole have powers with the exponent 0.
func TestChances(t *testing.T) {
	for n := range 13 {
		var all []int
		for k := range n + 1 {
			all = append(all, k)
		}
		for _, share := range shares {
			checkChances(t, n, share, exactChances(n, share), all)
		}
	}
}

// P4.1: as many trials as there may be.
func TestManyTrials(t *testing.T) {
	for _, n := range []int{100, 499, MaxTrials} {
		for _, share := range []int{0, 1, 2500, 5000, 9999, Whole} {
			checkChances(t, n, share, exactChances(n, share), []int{0, 1, 2, n / 4, n / 2, n/2 + 1, n - 2, n - 1, n})
		}
	}
}

// P4.1: where one outcome is certain.
func TestCertain(t *testing.T) {
	for _, n := range []int{0, 1, 2, 10, MaxTrials} {
		all := exactPower(Whole, n)
		for _, k := range []int{0, 1, n / 2, n - 1, n} {
			if k < 0 || k > n {
				continue
			}
			wantNone, wantAll := new(big.Int), new(big.Int)
			if k == 0 {
				wantNone = all
			}
			if k == n {
				wantAll = all
			}
			got, e := Chance(n, k, 0)
			check(t, "Chance", n, k, 0, got, e, wantNone)
			got, e = Upper(n, k, 0)
			check(t, "Upper", n, k, 0, got, e, wantNone)
			got, e = Lower(n, k, 0)
			check(t, "Lower", n, k, 0, got, e, all)
			got, e = Chance(n, k, Whole)
			check(t, "Chance", n, k, Whole, got, e, wantAll)
			got, e = Upper(n, k, Whole)
			check(t, "Upper", n, k, Whole, got, e, all)
			got, e = Lower(n, k, Whole)
			check(t, "Lower", n, k, Whole, got, e, wantAll)
		}
	}
}

// chanceFunctions are the functions with the arguments of Chance.
func chanceFunctions() map[string]func(n, k, share int) ([]uint32, api.Errno) {
	return map[string]func(n, k, share int) ([]uint32, api.Errno){"Chance": Chance, "Upper": Upper, "Lower": Lower}
}

// noSuccesses has trials and successes that are no such numbers, each with its error.
var noSuccesses = []struct {
	n, k int
	want api.Errno
}{
	{0, -1, api.ErrArg}, {0, 1, api.ErrArg}, {5, -1, api.ErrArg}, {5, 6, api.ErrArg}, {-1, 0, api.ErrArg}, {-1, -1, api.ErrArg}, {-5, -3, api.ErrArg}, {-3, -5, api.ErrArg},
	{MaxTrials, MaxTrials + 1, api.ErrArg}, {MaxTrials, -1, api.ErrArg}, {math.MinInt, 0, api.ErrArg}, {0, math.MinInt, api.ErrArg}, {math.MinInt, math.MinInt, api.ErrArg}, {0, math.MaxInt, api.ErrArg}, {math.MinInt, math.MaxInt, api.ErrArg},
	{MaxTrials + 1, 0, api.ErrLong}, {MaxTrials + 1, 7, api.ErrLong}, {MaxTrials + 1, MaxTrials, api.ErrLong}, {MaxTrials + 1, MaxTrials + 1, api.ErrLong}, {math.MaxInt, 0, api.ErrLong}, {math.MaxInt, 3, api.ErrLong}, {math.MaxInt, math.MaxInt, api.ErrLong},
	// ErrArg comes ahead of ErrLong.
	{MaxTrials + 1, -1, api.ErrArg}, {MaxTrials + 1, MaxTrials + 2, api.ErrArg}, {math.MaxInt, -1, api.ErrArg}, {math.MaxInt, math.MinInt, api.ErrArg},
}

// P4.1
func TestNoChances(t *testing.T) {
	for _, c := range noSuccesses {
		if got, e := Choose(c.n, c.k); len(got) != 0 || e != c.want {
			t.Errorf("Choose(%d, %d) = %v, %d", c.n, c.k, got, e)
		}
	}
	for name, f := range chanceFunctions() {
		for _, c := range noSuccesses {
			for _, share := range shares {
				if got, e := f(c.n, c.k, share); len(got) != 0 || e != c.want {
					t.Errorf("%s(%d, %d, %d) = %v, %d", name, c.n, c.k, share, got, e)
				}
			}
		}
		for _, share := range noShares {
			for _, n := range []int{0, 5, MaxTrials, MaxTrials + 1, math.MaxInt, -1} {
				if got, e := f(n, 0, share); len(got) != 0 || e != api.ErrArg {
					t.Errorf("%s(%d, 0, %d) = %v, %d", name, n, share, got, e)
				}
			}
		}
	}
}

// P4.1: results share no memory with one another.
func TestNoSharedMemory(t *testing.T) {
	for name, f := range chanceFunctions() {
		for _, share := range []int{2500, Whole} {
			first, _ := f(9, 9, share)
			kept := slices.Clone(first)
			second, _ := f(9, 9, share)
			second[0]++
			if third, _ := f(9, 9, share); !slices.Equal(first, kept) || !slices.Equal(third, kept) {
				t.Error(name, first, third, kept)
			}
		}
	}
}

// P4.4: the upper chance of k, and the lower one of k - 1, are all of Whole^n.
func TestAllOfWhole(t *testing.T) {
	for _, n := range []int{1, 2, 3, 10, 77, MaxTrials} {
		whole, _ := nat.Pow(nat.Of(Whole), n)
		for _, share := range shares {
			for _, k := range []int{1, n/2 + 1, n} {
				upper, _ := Upper(n, k, share)
				lower, _ := Lower(n, k-1, share)
				if sum, e := nat.Add(upper, lower); !slices.Equal(sum, whole) || e != api.OK {
					t.Errorf("%d, %d, %d: %v", n, k, share, sum)
				}
			}
			upper, _ := Upper(n, 0, share)
			lower, _ := Lower(n, n, share)
			if !slices.Equal(upper, whole) || !slices.Equal(lower, whole) {
				t.Errorf("%d, %d: %v, %v", n, share, upper, lower)
			}
		}
	}
}

// P4.4: upper chances do not fall if the share grows, and so lower chances do not grow.
func TestShareGrows(t *testing.T) {
	for _, n := range []int{1, 2, 5, 20} {
		for k := range n + 1 {
			upper, _ := Upper(n, k, 0)
			lower, _ := Lower(n, k, 0)
			for share := 1; share <= Whole; share += 37 {
				nextUpper, _ := Upper(n, k, share)
				nextLower, _ := Lower(n, k, share)
				if order, e := nat.Cmp(upper, nextUpper); order > 0 || e != api.OK {
					t.Fatalf("Upper(%d, %d, %d) falls", n, k, share)
				}
				if order, e := nat.Cmp(lower, nextLower); order < 0 || e != api.OK {
					t.Fatalf("Lower(%d, %d, %d) grows", n, k, share)
				}
				upper, lower = nextUpper, nextLower
			}
		}
	}
}

// P4.1: the examples of the chapter.
func TestChanceExamples(t *testing.T) {
	for i, c := range []struct {
		f    func() ([]uint32, api.Errno)
		want uint64
	}{
		{func() ([]uint32, api.Errno) { return Choose(5, 2) }, 10},
		{func() ([]uint32, api.Errno) { return Chance(2, 1, 2500) }, 37500000},
		{func() ([]uint32, api.Errno) { return Upper(2, 1, 2500) }, 43750000},
		{func() ([]uint32, api.Errno) { return Lower(2, 1, 2500) }, 93750000},
	} {
		got, e := c.f()
		if n, ok := nat.Uint(got); n != c.want || !ok || e != api.OK {
			t.Errorf("example %d: %v, %d", i, got, e)
		}
	}
}
