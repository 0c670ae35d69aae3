package stats

import (
	"math"
	"math/big"
	"testing"

	"letterbag/api"
)

// risks has risks at the edges, and in between.
var risks = []int{1, 2, 100, 500, 1999, MaxRisk}

// exceeds reports whether a chance of n trials exceeds a risk, by the words of the chapter.
func exceeds(chance *big.Int, n, risk int) bool {
	left := new(big.Int).Mul(chance, big.NewInt(Whole))
	right := new(big.Int).Mul(exactPower(Whole, n), big.NewInt(int64(risk)))
	return left.Cmp(right) > 0
}

// exactLeast returns the lower bound: the first share of all whose upper chance exceeds the risk.
func exactLeast(n, k, risk int) int {
	share := 0
	for !exceeds(exactSum(exactChances(n, share)[k:]), n, risk) {
		share++
	}
	return share
}

// exactGreatest returns the upper bound: the last share of all whose lower chance exceeds the risk.
func exactGreatest(n, k, risk int) int {
	share := Whole
	for !exceeds(exactSum(exactChances(n, share)[:k+1]), n, risk) {
		share--
	}
	return share
}

// bounds returns both bounds, without errors.
func bounds(t *testing.T, n, k, risk int) (int, int) {
	t.Helper()
	least, e := Least(n, k, risk)
	greatest, other := Greatest(n, k, risk)
	if e != api.OK || other != api.OK {
		t.Fatalf("Least, Greatest(%d, %d, %d): %d, %d", n, k, risk, e, other)
	}
	return least, greatest
}

// P4.2: among all shares.
func TestBounds(t *testing.T) {
	for n := range 6 {
		for k := range n + 1 {
			for _, risk := range []int{1, 500, MaxRisk} {
				least, greatest := bounds(t, n, k, risk)
				if want := exactLeast(n, k, risk); least != want {
					t.Errorf("Least(%d, %d, %d) = %d, not %d", n, k, risk, least, want)
				}
				if want := exactGreatest(n, k, risk); greatest != want {
					t.Errorf("Greatest(%d, %d, %d) = %d, not %d", n, k, risk, greatest, want)
				}
			}
		}
	}
}

// checkBounds fails unless the chances of both bounds exceed the risk, and those of the next shares outside do not. That is enough, as upper chances do not fall if the share grows.
func checkBounds(t *testing.T, n, k, risk int) {
	t.Helper()
	upper := func(share int) bool { return exceeds(exactSum(exactChances(n, share)[k:]), n, risk) }
	lower := func(share int) bool { return exceeds(exactSum(exactChances(n, share)[:k+1]), n, risk) }
	least, greatest := bounds(t, n, k, risk)
	if least < 0 || least > Whole || !upper(least) || least > 0 && upper(least-1) {
		t.Errorf("Least(%d, %d, %d) = %d", n, k, risk, least)
	}
	if greatest < 0 || greatest > Whole || !lower(greatest) || greatest < Whole && lower(greatest+1) {
		t.Errorf("Greatest(%d, %d, %d) = %d", n, k, risk, greatest)
	}
}

// P4.2
func TestBoundsOfMoreTrials(t *testing.T) {
	for n := 6; n < 24; n++ {
		for k := range n + 1 {
			for _, risk := range risks {
				checkBounds(t, n, k, risk)
			}
		}
	}
	for _, n := range []int{100, MaxTrials} {
		for _, k := range []int{0, 1, n / 3, n / 2, n - 1, n} {
			for _, risk := range []int{1, 500, MaxRisk} {
				checkBounds(t, n, k, risk)
			}
		}
	}
}

// P4.2: a chance that equals the risk does not exceed it.
func TestChanceEqualsRisk(t *testing.T) {
	for _, risk := range []int{1, 2, 500, 1999, MaxRisk} {
		// The upper chance of 1 of 1 is the share, the lower one of 0 is the rest.
		if least, _ := bounds(t, 1, 1, risk); least != risk+1 {
			t.Errorf("Least(1, 1, %d) = %d", risk, least)
		}
		if _, greatest := bounds(t, 1, 0, risk); greatest != Whole-risk-1 {
			t.Errorf("Greatest(1, 0, %d) = %d", risk, greatest)
		}
	}
	for root := 1; root*root <= MaxRisk/100; root++ { // (100 * root)^2 of Whole^2 is root^2 * Whole
		risk := root * root
		if least, _ := bounds(t, 2, 2, risk); least != 100*root+1 {
			t.Errorf("Least(2, 2, %d) = %d", risk, least)
		}
		if _, greatest := bounds(t, 2, 0, risk); greatest != Whole-100*root-1 {
			t.Errorf("Greatest(2, 0, %d) = %d", risk, greatest)
		}
	}
}

// P4.2
func TestNoBounds(t *testing.T) {
	noRisks := []int{0, -1, MaxRisk + 1, Whole, -500, math.MinInt, math.MaxInt}
	for name, f := range map[string]func(n, k, risk int) (int, api.Errno){"Least": Least, "Greatest": Greatest} {
		for _, c := range noSuccesses {
			for _, risk := range risks {
				if got, e := f(c.n, c.k, risk); got != 0 || e != c.want {
					t.Errorf("%s(%d, %d, %d) = %d, %d", name, c.n, c.k, risk, got, e)
				}
			}
		}
		for _, risk := range noRisks {
			for _, n := range []int{0, 5, MaxTrials, MaxTrials + 1, math.MaxInt, -1} {
				if got, e := f(n, 0, risk); got != 0 || e != api.ErrArg {
					t.Errorf("%s(%d, 0, %d) = %d, %d", name, n, risk, got, e)
				}
			}
		}
	}
}

// P4.4: the lower bound is at most the upper bound, and the observed share is between them, up to rounding.
func TestObservedShare(t *testing.T) {
	for _, n := range []int{1, 2, 3, 7, 16, 60} {
		for k := range n + 1 {
			for _, risk := range risks {
				least, greatest := bounds(t, n, k, risk)
				if least > greatest || least > (k*Whole+n-1)/n || greatest < k*Whole/n {
					t.Errorf("%d of %d, %d: %d to %d", k, n, risk, least, greatest)
				}
			}
		}
	}
}

// P4.4: whatever the share is, the probability that the lower bound is greater than it is at most the risk, and so is the probability that the upper bound is less.
func TestRisk(t *testing.T) {
	for _, n := range []int{0, 1, 2, 5, 13, 30} {
		for _, risk := range risks {
			least, greatest := make([]int, n+1), make([]int, n+1)
			for k := range n + 1 {
				least[k], greatest[k] = bounds(t, n, k, risk)
			}
			for share := 0; share <= Whole; share += 125 {
				tooGreat, tooLow := new(big.Int), new(big.Int)
				for k, chance := range exactChances(n, share) {
					if least[k] > share {
						tooGreat.Add(tooGreat, chance)
					}
					if greatest[k] < share {
						tooLow.Add(tooLow, chance)
					}
				}
				if exceeds(tooGreat, n, risk) || exceeds(tooLow, n, risk) {
					t.Errorf("%d trials, the risk %d, the share %d: %v, %v", n, risk, share, tooGreat, tooLow)
				}
			}
		}
	}
}

// P4.2: the examples of the chapter.
func TestBoundExamples(t *testing.T) {
	for _, c := range []struct{ n, k, risk, least, greatest int }{
		{10, 10, 500, 7412, Whole},
		{10, 0, 500, 0, 2588},
		{0, 0, 500, 0, Whole},
		{0, 0, 1, 0, Whole},
		{0, 0, MaxRisk, 0, Whole},
	} {
		if least, greatest := bounds(t, c.n, c.k, c.risk); least != c.least || greatest != c.greatest {
			t.Errorf("%d of %d, %d: %d to %d", c.k, c.n, c.risk, least, greatest)
		}
	}
}
