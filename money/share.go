package money

import "letterbag/api"

// Share returns a share of an amount, rounded.
func Share(cents, share int, way uint8) (int, api.Errno) {
	if !Right(cents) || share < 0 || share > Whole {
		return 0, api.ErrArg
	}
	floor, rest := portion(cents, share, Whole)
	added, ok := roundings(floor, rest)[way]
	if !ok {
		return 0, api.ErrArg
	}
	return floor + added(), api.OK
}

// Split splits an amount by weights.
func Split(cents int, weights []int) ([]int, api.Errno) {
	if len(weights) > MaxList {
		return nil, api.ErrMany
	}
	total, ok := totalWeight(weights)
	if !Right(cents) || !ok {
		return nil, api.ErrArg
	}
	parts := make([]int, len(weights))
	left := cents
	for i, w := range weights {
		parts[i], _ = portion(cents, w, total)
		left -= parts[i]
	}
	for i, w := range weights {
		if left > 0 && w > 0 {
			parts[i]++
			left--
		}
	}
	return parts, api.OK
}

// roundings has, for each way of rounding, what it adds to a share of an amount whose floor and whose rest (in parts of Whole) are given.
func roundings(floor, rest int) map[uint8]func() int {
	nearest := func(halfUp bool) int {
		if 2*rest > Whole || 2*rest == Whole && halfUp {
			return 1
		}
		return 0
	}
	return map[uint8]func() int{
		RoundDown: func() int { return 0 },
		RoundUp:   func() int { return min(rest, 1) },
		RoundHalf: func() int { return nearest(floor >= 0) }, // below 0 the floor is farther from 0
		RoundEven: func() int { return nearest(floor%2 != 0) },
	}
}

// totalWeight returns the sum of all weights, and whether they can split an amount.
func totalWeight(weights []int) (int, bool) {
	total := 0
	for _, w := range weights {
		if w < 0 || w > MaxWeight {
			return 0, false
		}
		total += w
	}
	return total, total > 0
}

// portion returns an amount times part, divided by whole, rounded down, and the rest in parts of whole. The part is from 0 to whole.
func portion(cents, part, whole int) (int, int) {
	floor, rest := cents/whole, cents%whole
	if rest < 0 {
		floor--
		rest += whole
	}
	// The amount is divided ahead of being multiplied: times a part it may overflow, and its rest does not.
	rest *= part
	return floor*part + rest/whole, rest % whole
}
