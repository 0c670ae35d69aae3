package money

import (
	"math"
	"slices"
	"testing"

	"letterbag/api"
)

// noAmounts has numbers that are no amounts.
var noAmounts = []int{MaxCents + 1, -MaxCents - 1, 2 * MaxCents, math.MaxInt, math.MinInt, math.MinInt + 1}

// amounts has amounts near the bounds, near 0, and in between.
func amounts() []int {
	var l []int
	for _, n := range []int{0, 50, 100, 105, 1050, 5000, Whole, 123456, 4999999999999, MaxCents / 3, MaxCents / 2, MaxCents - 2} {
		for d := -2; d <= 2; d++ {
			l = append(l, n+d, -n-d)
		}
	}
	slices.Sort(l)
	return slices.Compact(l)
}

// repeated returns a list of n equal numbers.
func repeated(n, of int) []int {
	l := make([]int, n)
	for i := range l {
		l[i] = of
	}
	return l
}

// P2.1
func TestRight(t *testing.T) {
	for _, cents := range amounts() {
		if !Right(cents) {
			t.Errorf("Right(%d) is false", cents)
		}
	}
	for _, cents := range noAmounts {
		if Right(cents) {
			t.Errorf("Right(%d) is true", cents)
		}
	}
}

// P2.1
func TestAdd(t *testing.T) {
	for _, c := range []struct {
		a, b, sum int
		e         api.Errno
	}{
		{0, 0, 0, api.OK}, {1, 2, 3, api.OK}, {-5, 3, -2, api.OK}, {7, -7, 0, api.OK}, {-4, -6, -10, api.OK},
		{MaxCents, 0, MaxCents, api.OK}, {MaxCents - 1, 1, MaxCents, api.OK}, {MaxCents, -MaxCents, 0, api.OK},
		{-MaxCents, 0, -MaxCents, api.OK}, {1 - MaxCents, -1, -MaxCents, api.OK}, {MaxCents, -1, MaxCents - 1, api.OK},
		{MaxCents, 1, 0, api.ErrLong}, {1, MaxCents, 0, api.ErrLong}, {MaxCents, MaxCents, 0, api.ErrLong},
		{-MaxCents, -1, 0, api.ErrLong}, {-1, -MaxCents, 0, api.ErrLong}, {-MaxCents, -MaxCents, 0, api.ErrLong},
		{MaxCents/2 + 1, MaxCents / 2, 0, api.ErrLong},
	} {
		if sum, e := Add(c.a, c.b); sum != c.sum || e != c.e {
			t.Errorf("Add(%d, %d) = %d, %d", c.a, c.b, sum, e)
		}
	}
	for _, cents := range noAmounts {
		for _, other := range []int{0, 1, -1, MaxCents, -MaxCents, cents, -cents} { // ErrArg comes ahead of ErrLong, also where the sum is an amount
			if sum, e := Add(cents, other); sum != 0 || e != api.ErrArg {
				t.Errorf("Add(%d, %d) = %d, %d", cents, other, sum, e)
			}
			if sum, e := Add(other, cents); sum != 0 || e != api.ErrArg {
				t.Errorf("Add(%d, %d) = %d, %d", other, cents, sum, e)
			}
		}
	}
}

// P2.1
func TestSum(t *testing.T) {
	for i, c := range []struct {
		l   []int
		sum int
		e   api.Errno
	}{
		{nil, 0, api.OK},
		{[]int{}, 0, api.OK},
		{[]int{5}, 5, api.OK},
		{[]int{-5}, -5, api.OK},
		{[]int{1, 2, 3, -4}, 2, api.OK},
		{[]int{MaxCents}, MaxCents, api.OK},
		{[]int{-MaxCents}, -MaxCents, api.OK},
		{[]int{MaxCents, MaxCents, -MaxCents}, MaxCents, api.OK}, // the sum of the first two is no amount
		{[]int{-MaxCents, -MaxCents, -MaxCents, MaxCents, MaxCents}, -MaxCents, api.OK},
		{[]int{MaxCents, MaxCents, 1, -MaxCents}, 0, api.ErrLong},
		{[]int{-MaxCents, -1}, 0, api.ErrLong},
		{[]int{1, MaxCents + 1, -MaxCents}, 0, api.ErrArg},
		{[]int{MaxCents, MaxCents, -MaxCents - 1}, 0, api.ErrArg}, // ErrArg comes ahead of ErrLong
		{[]int{math.MinInt, math.MinInt}, 0, api.ErrArg},
		{[]int{math.MaxInt, -math.MaxInt}, 0, api.ErrArg},
		{repeated(MaxList, 3), 3 * MaxList, api.OK},
		{append(repeated(MaxList/2, MaxCents), repeated(MaxList/2, -MaxCents)...), 0, api.OK},
		{repeated(MaxList, MaxCents), 0, api.ErrLong},
		{repeated(MaxList, -MaxCents), 0, api.ErrLong},
		{repeated(MaxList, MaxCents+1), 0, api.ErrArg},
		{repeated(MaxList+1, 0), 0, api.ErrMany},
		{repeated(MaxList+1, math.MaxInt), 0, api.ErrMany}, // ErrMany comes first
		{repeated(MaxList+1, MaxCents), 0, api.ErrMany},
	} {
		kept := slices.Clone(c.l)
		if sum, e := Sum(c.l...); sum != c.sum || e != c.e {
			t.Errorf("Sum %d = %d, %d", i, sum, e)
		}
		if !slices.Equal(c.l, kept) {
			t.Errorf("Sum %d modifies its list", i)
		}
	}
}
