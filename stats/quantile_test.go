package stats

import (
	"math"
	"math/rand/v2"
	"slices"
	"testing"

	"letterbag/api"
)

// isQuantile reports whether a number is a quantile, by the words of the chapter: the least of the numbers that enough of them are at most as great as.
func isQuantile(l []int, q, n int) bool {
	enough := func(n int) bool {
		count := 0
		for _, other := range l {
			if other <= n {
				count++
			}
		}
		return count*Whole >= q*len(l)
	}
	for _, other := range l {
		if other < n && enough(other) {
			return false
		}
	}
	return slices.Contains(l, n) && enough(n)
}

// P4.3: the first list has the examples of the chapter.
func TestQuantile(t *testing.T) {
	for i, c := range []struct {
		l       []int
		q, want int
	}{
		{[]int{5, 1, 4, 2}, 0, 1}, {[]int{5, 1, 4, 2}, 5000, 2}, {[]int{5, 1, 4, 2}, 9000, 5}, {[]int{5, 1, 4, 2}, Whole, 5},
		{[]int{5, 1, 4, 2}, 1, 1}, {[]int{5, 1, 4, 2}, 2500, 1}, {[]int{5, 1, 4, 2}, 2501, 2}, {[]int{5, 1, 4, 2}, 5001, 4}, {[]int{5, 1, 4, 2}, 7500, 4}, {[]int{5, 1, 4, 2}, 7501, 5},
		{[]int{7}, 0, 7}, {[]int{7}, 1, 7}, {[]int{7}, 5000, 7}, {[]int{7}, Whole, 7},
		{[]int{3, 2, 1}, 3333, 1}, {[]int{3, 2, 1}, 3334, 2}, {[]int{3, 2, 1}, 5000, 2}, {[]int{3, 2, 1}, 6666, 2}, {[]int{3, 2, 1}, 6667, 3},
		{[]int{2, 1, 2, 1, 2}, 4000, 1}, {[]int{2, 1, 2, 1, 2}, 4001, 2}, {[]int{2, 1, 2, 1, 2}, 0, 1}, {[]int{2, 1, 2, 1, 2}, Whole, 2},
		{[]int{9, 9, 9}, 0, 9}, {[]int{9, 9, 9}, 5000, 9}, {[]int{9, 9, 9}, Whole, 9},
		{[]int{0, -5, 5}, 0, -5}, {[]int{0, -5, 5}, 5000, 0}, {[]int{-1, -3, -2}, Whole, -1},
		{[]int{math.MaxInt, math.MinInt}, 0, math.MinInt}, {[]int{math.MaxInt, math.MinInt}, 5000, math.MinInt}, {[]int{math.MaxInt, math.MinInt}, 5001, math.MaxInt},
		{[]int{2000, 100, 300}, 5000, 300},
	} {
		kept := slices.Clone(c.l)
		if got, e := Quantile(c.l, c.q); got != c.want || e != api.OK || !isQuantile(c.l, c.q, got) {
			t.Errorf("Quantile %d = %d, %d", i, got, e)
		}
		if !slices.Equal(c.l, kept) {
			t.Errorf("Quantile %d modifies its list", i)
		}
	}
}

// P4.3
func TestQuantileOfAnyList(t *testing.T) {
	random := rand.New(rand.NewPCG(4, 1))
	for range 5000 {
		l := make([]int, 1+random.IntN(30))
		for i := range l {
			l[i] = random.IntN(20) - 10
		}
		q := random.IntN(Whole + 1)
		if random.IntN(2) == 0 { // where as many as needed are just enough, or one too few
			q = min(random.IntN(len(l)+1)*Whole/len(l)+random.IntN(2), Whole)
		}
		if got, e := Quantile(l, q); e != api.OK || !isQuantile(l, q, got) {
			t.Fatalf("Quantile(%v, %d) = %d, %d", l, q, got, e)
		}
	}
}

// countdown returns the numbers from n to 1.
func countdown(n int) []int {
	l := make([]int, n)
	for i := range l {
		l[i] = n - i
	}
	return l
}

// P4.3
func TestQuantileOfManyNumbers(t *testing.T) {
	l := countdown(MaxList)
	for q, want := range map[int]int{0: 1, 1: 1, 2: 2, 5000: 5000, 9999: 9999, Whole: MaxList} {
		if got, e := Quantile(l, q); got != want || e != api.OK {
			t.Errorf("Quantile of %d: %d, %d", q, got, e)
		}
	}
}

// P4.3
func TestNoQuantile(t *testing.T) {
	for _, q := range shares {
		if got, e := Quantile(nil, q); got != 0 || e != api.ErrNone {
			t.Errorf("none, %d: %d, %d", q, got, e)
		}
		if got, e := Quantile(countdown(MaxList+1), q); got != 0 || e != api.ErrMany {
			t.Errorf("too many, %d: %d, %d", q, got, e)
		}
	}
	for _, q := range noShares {
		for _, l := range [][]int{{}, {1}, {3, 2}, countdown(MaxList)} { // ErrArg comes ahead of ErrNone
			if got, e := Quantile(l, q); got != 0 || e != api.ErrArg {
				t.Errorf("%d, %d: %d, %d", len(l), q, got, e)
			}
		}
		if got, e := Quantile(countdown(MaxList+1), q); got != 0 || e != api.ErrMany { // ErrMany comes ahead of ErrArg
			t.Errorf("too many, %d: %d, %d", q, got, e)
		}
	}
	if got, e := Quantile([]int{}, 5000); got != 0 || e != api.ErrNone {
		t.Error(got, e)
	}
}
