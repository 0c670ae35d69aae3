package stats

import (
	"iter"
	"sort"

	"letterbag/nat"
)

// The errors of package nat are left out below: no number there has more limbs than Whole^(MaxTrials+2), which is far from too long, and nothing is divided by zero.

// chances yields, for each k from 0 to n, k and the number of k-element subsets of n elements, times p^k, times q^(n-k). For a share p, and the rest q, these are the chances; for 1 and 1 the numbers of subsets.
func chances(n, p, q int) iter.Seq2[int, []uint32] {
	return func(yield func(int, []uint32) bool) {
		chance := power(q, n)
		for k := range n {
			if !yield(k, chance) {
				return
			}
			if q > 0 { // otherwise all of them are zero but the last one, which no other one leads to
				chance = quotient(product(chance, (n-k)*p), (k+1)*q)
			}
		}
		yield(n, power(p, n))
	}
}

// chanceOf returns the chance of k of n, as chances yields it.
func chanceOf(n, k, p, q int) []uint32 {
	for i, chance := range chances(n, p, q) {
		if i == k {
			return chance
		}
	}
	return nil
}

// lower returns the lower chance of k.
func lower(n, k, share int) []uint32 {
	var sum []uint32
	for i, chance := range chances(n, share, Whole-share) {
		sum, _ = nat.Add(sum, chance)
		if i == k {
			break
		}
	}
	return sum
}

// upper returns the upper chance of k: that of n - k failures or fewer.
func upper(n, k, share int) []uint32 { return lower(n, n-k, Whole-share) }

// leastPossible returns the least share that has a chance of n trials that exceeds a risk. The chance must not fall if the share grows; with the share Whole it must be certain.
func leastPossible(n, risk int, chance func(share int) []uint32) int {
	risked := product(power(Whole, n), risk)
	return sort.Search(Whole, func(share int) bool {
		order, _ := nat.Cmp(product(chance(share), Whole), risked)
		return order > 0
	})
}

// power returns a power of a number that is not below 0.
func power(of, n int) []uint32 {
	p, _ := nat.Pow(nat.Of(uint64(of)), n)
	return p
}

// product returns a natural number times one that is not below 0.
func product(a []uint32, n int) []uint32 {
	p, _ := nat.Mul(a, nat.Of(uint64(n)))
	return p
}

// quotient returns a natural number divided by one that is above 0.
func quotient(a []uint32, n int) []uint32 {
	q, _, _ := nat.DivMod(a, nat.Of(uint64(n)))
	return q
}
