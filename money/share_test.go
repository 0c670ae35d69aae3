package money

import (
	"math"
	"math/big"
	"math/rand/v2"
	"slices"
	"testing"

	"letterbag/api"
)

// quotient returns an amount times part, divided by whole, rounded down, and the rest in parts of whole.
func quotient(cents, part, whole int) (int, int) {
	product := new(big.Int).Mul(big.NewInt(int64(cents)), big.NewInt(int64(part)))
	q, rest := new(big.Int).DivMod(product, big.NewInt(int64(whole)), new(big.Int)) // the rest is never below 0
	return int(q.Int64()), int(rest.Int64())
}

// exactShare returns a share by the words of the chapter: the number of the two next to it that each way of rounding asks for.
func exactShare(cents, share int, way uint8) int {
	down, rest := quotient(cents, share, Whole)
	if rest == 0 {
		return down
	}
	up := down + 1
	farther, even := up, up
	if cents < 0 {
		farther = down
	}
	if down%2 == 0 {
		even = down
	}
	switch {
	case way == RoundDown:
		return down
	case way == RoundUp:
		return up
	case rest < Whole-rest:
		return down
	case rest > Whole-rest:
		return up
	case way == RoundHalf:
		return farther
	}
	return even
}

// P2.2: each row has the shares in the order of the ways.
func TestShare(t *testing.T) {
	for _, c := range []struct {
		cents, share int
		want         [4]int
	}{
		{0, 0, [4]int{0, 0, 0, 0}},
		{0, Whole, [4]int{0, 0, 0, 0}},
		{1050, 5000, [4]int{525, 525, 525, 525}},
		{-1050, 5000, [4]int{-525, -525, -525, -525}},
		{105, 5000, [4]int{52, 53, 53, 52}},
		{-105, 5000, [4]int{-53, -52, -53, -52}},
		{107, 5000, [4]int{53, 54, 54, 54}},
		{-107, 5000, [4]int{-54, -53, -54, -54}},
		{1, 5000, [4]int{0, 1, 1, 0}},
		{-1, 5000, [4]int{-1, 0, -1, 0}},
		{3, 5000, [4]int{1, 2, 2, 2}},
		{-3, 5000, [4]int{-2, -1, -2, -2}},
		{1, 4999, [4]int{0, 1, 0, 0}},
		{-1, 4999, [4]int{-1, 0, 0, 0}},
		{1, 5001, [4]int{0, 1, 1, 1}},
		{-1, 5001, [4]int{-1, 0, -1, -1}},
		{1, 1, [4]int{0, 1, 0, 0}},
		{-1, 1, [4]int{-1, 0, 0, 0}},
		{1, 9999, [4]int{0, 1, 1, 1}},
		{-1, 9999, [4]int{-1, 0, -1, -1}},
		{77, 0, [4]int{0, 0, 0, 0}},
		{77, Whole, [4]int{77, 77, 77, 77}},
		{-77, Whole, [4]int{-77, -77, -77, -77}},
		{6, 2500, [4]int{1, 2, 2, 2}},
		{-6, 2500, [4]int{-2, -1, -2, -2}},
		{10, 2500, [4]int{2, 3, 3, 2}},
		{MaxCents, Whole, [4]int{MaxCents, MaxCents, MaxCents, MaxCents}},
		{-MaxCents, Whole, [4]int{-MaxCents, -MaxCents, -MaxCents, -MaxCents}},
		{MaxCents - 1, 9999, [4]int{999899999999999, 999900000000000, 999899999999999, 999899999999999}},
		{1 - MaxCents, 5000, [4]int{-500000000000000, -499999999999999, -500000000000000, -500000000000000}},
	} {
		for i, want := range c.want {
			if got, e := Share(c.cents, c.share, uint8(i+1)); got != want || e != api.OK {
				t.Errorf("Share(%d, %d, %d) = %d, %d, not %d", c.cents, c.share, i+1, got, e, want)
			}
		}
	}
}

// P2.2
func TestNoShare(t *testing.T) {
	for _, cents := range noAmounts {
		if got, e := Share(cents, 5000, RoundDown); got != 0 || e != api.ErrArg {
			t.Errorf("Share(%d, 5000, 1) = %d, %d", cents, got, e)
		}
	}
	for _, share := range []int{-1, Whole + 1, math.MaxInt, math.MinInt} {
		if got, e := Share(100, share, RoundHalf); got != 0 || e != api.ErrArg {
			t.Errorf("Share(100, %d, 3) = %d, %d", share, got, e)
		}
	}
	for _, way := range []uint8{0, 5, 6, 255} {
		if got, e := Share(100, 5000, way); got != 0 || e != api.ErrArg {
			t.Errorf("Share(100, 5000, %d) = %d, %d", way, got, e)
		}
	}
}

// P2.2
func TestEveryShare(t *testing.T) {
	for _, cents := range amounts() {
		for share := 0; share <= Whole; share += 1 + share%7 {
			for way := RoundDown; way <= RoundEven; way++ {
				if got, e := Share(cents, share, way); got != exactShare(cents, share, way) || e != api.OK {
					t.Fatalf("Share(%d, %d, %d) = %d, %d", cents, share, way, got, e)
				}
			}
		}
	}
}

// P2.5: the share, rounded down, and the rest of Whole, rounded up, add up to the amount.
func TestSharesAddUp(t *testing.T) {
	for _, cents := range amounts() {
		for share := range Whole + 1 {
			down, _ := Share(cents, share, RoundDown)
			up, _ := Share(cents, Whole-share, RoundUp)
			if down+up != cents {
				t.Fatal(cents, share, down, up)
			}
		}
	}
}

// P2.3
func TestSplit(t *testing.T) {
	for _, c := range []struct {
		cents         int
		weights, want []int
	}{
		{100, []int{1, 1, 1}, []int{34, 33, 33}},
		{-100, []int{1, 1, 1}, []int{-33, -33, -34}},
		{10, []int{0, 3, 1}, []int{0, 8, 2}},
		{-10, []int{0, 3, 1}, []int{0, -7, -3}},
		{11, []int{1, 0, 1, 0, 1}, []int{4, 0, 4, 0, 3}},
		{1, []int{0, 0, 1, 0, 9}, []int{0, 0, 1, 0, 0}},
		{-1, []int{0, 2, 0, 1}, []int{0, 0, 0, -1}},
		{0, []int{5, 0, 2}, []int{0, 0, 0}},
		{7, []int{3}, []int{7}},
		{-7, []int{MaxWeight}, []int{-7}},
		{7, []int{0, 1}, []int{0, 7}},
		{7, []int{1, 0}, []int{7, 0}},
		{9, []int{1, 2}, []int{3, 6}},
		{MaxCents, []int{MaxWeight, MaxWeight}, []int{MaxCents / 2, MaxCents / 2}},
		{MaxCents, []int{MaxWeight, MaxWeight - 1}, []int{500000250000126, 499999749999874}},
		{-MaxCents, []int{1, 1, 1}, []int{-333333333333333, -333333333333333, -333333333333334}},
	} {
		kept := slices.Clone(c.weights)
		got, e := Split(c.cents, c.weights)
		if !slices.Equal(got, c.want) || e != api.OK {
			t.Errorf("Split(%d, %v) = %v, %d", c.cents, c.weights, got, e)
		}
		if !slices.Equal(c.weights, kept) {
			t.Errorf("Split(%d, %v) modifies its weights: %v", c.cents, kept, c.weights)
		}
	}
}

// P2.3
func TestNoSplit(t *testing.T) {
	for i, c := range []struct {
		cents   int
		weights []int
		e       api.Errno
	}{
		{100, nil, api.ErrArg},
		{100, []int{}, api.ErrArg},
		{100, []int{0}, api.ErrArg},
		{0, []int{0, 0, 0}, api.ErrArg},
		{100, []int{1, -1, 1}, api.ErrArg},
		{100, []int{2, -1}, api.ErrArg},
		{100, []int{1, MaxWeight + 1}, api.ErrArg},
		{100, []int{math.MaxInt, 1}, api.ErrArg},
		{100, []int{1, math.MinInt}, api.ErrArg},
		{100, []int{math.MaxInt, math.MaxInt, 4}, api.ErrArg},
		{MaxCents + 1, []int{1}, api.ErrArg},
		{-MaxCents - 1, []int{1}, api.ErrArg},
		{math.MinInt, []int{1}, api.ErrArg},
		{100, repeated(MaxList, 0), api.ErrArg},
		{100, repeated(MaxList+1, 1), api.ErrMany},
		{100, repeated(MaxList+1, 0), api.ErrMany}, // ErrMany comes first
		{100, repeated(MaxList+1, -1), api.ErrMany},
		{MaxCents + 1, repeated(MaxList+1, 1), api.ErrMany},
	} {
		if got, e := Split(c.cents, c.weights); len(got) != 0 || e != c.e {
			t.Errorf("Split %d = %v, %d", i, got, e)
		}
	}
}

// P2.3: a split shares no memory with the weights, nor does it write behind them.
func TestSplitIsNew(t *testing.T) {
	room := []int{1, 1, 42}
	weights := room[:2]
	first, _ := Split(3, weights)
	second, _ := Split(3, weights)
	if !slices.Equal(room, []int{1, 1, 42}) {
		t.Error(room)
	}
	first[0], weights[1] = 77, 88
	if !slices.Equal(second, []int{2, 1}) || !slices.Equal(first, []int{77, 1}) || room[0] != 1 {
		t.Error(first, second, room)
	}
}

// someWeights returns lists of weights of all sizes, with many that are 0.
func someWeights() [][]int {
	random := rand.New(rand.NewPCG(2, 3))
	lists := [][]int{{1}, {MaxWeight}, {0, 1}, {MaxWeight, 0, 1}, repeated(MaxList, 1), repeated(MaxList, MaxWeight), append(repeated(MaxList-1, 0), MaxWeight)}
	for range 200 {
		most := []int{1, 2, 10, 1000, MaxWeight}[random.IntN(5)]
		weights := make([]int, 1+random.IntN(20))
		for i := range weights {
			weights[i] = random.IntN(most+1) * random.IntN(2)
		}
		weights[random.IntN(len(weights))] = 1 + random.IntN(most)
		lists = append(lists, weights)
	}
	return append(lists, mixed(random, MaxList))
}

// mixed returns n weights up to the greatest one.
func mixed(random *rand.Rand, n int) []int {
	weights := make([]int, n)
	for i := range weights {
		weights[i] = random.IntN(MaxWeight + 1)
	}
	return weights
}

// P2.3, P2.5: a split adds up to the amount; the first weights that are not 0 get a cent more than their part rounded down, as many as there are cents left over.
func TestSplitsAddUp(t *testing.T) {
	for _, weights := range someWeights() {
		total := 0
		for _, w := range weights {
			total += w
		}
		for _, cents := range []int{0, 1, -1, 99, -100, 12345, -98765, MaxCents - 1, MaxCents, 1 - MaxCents, -MaxCents} {
			want, left := make([]int, len(weights)), cents
			for i, w := range weights {
				want[i], _ = quotient(cents, w, total)
				left -= want[i]
			}
			for i := 0; left > 0; i++ {
				if weights[i] != 0 {
					want[i]++
					left--
				}
			}
			got, e := Split(cents, weights)
			if !slices.Equal(got, want) || e != api.OK {
				t.Fatalf("Split(%d, %v) = %v, %d", cents, weights, got, e)
			}
			if sum, e := Sum(got...); sum != cents || e != api.OK {
				t.Fatalf("Split(%d, %v) adds up to %d, %d", cents, weights, sum, e)
			}
		}
	}
}

// P2.5: weights that are all multiplied by the same number split in the same way.
func TestSplitsOfMultiples(t *testing.T) {
	for _, weights := range someWeights() {
		most := MaxWeight / slices.Max(weights)
		for _, by := range []int{2, 3, most} {
			if by > most {
				continue
			}
			multiplied := slices.Clone(weights)
			for i := range multiplied {
				multiplied[i] *= by
			}
			for _, cents := range []int{1, -1, 100, -100, 7777777, MaxCents, -MaxCents} {
				a, _ := Split(cents, weights)
				b, e := Split(cents, multiplied)
				if !slices.Equal(a, b) || e != api.OK {
					t.Fatalf("Split(%d, %v) by %d: %v, %v, %d", cents, weights, by, a, b, e)
				}
			}
		}
	}
}
