package nat

import (
	"math/bits"

	"letterbag/api"
)

// Mul returns the product of two natural numbers.
func Mul(a, b []uint32) ([]uint32, api.Errno) {
	if !Right(a) || !Right(b) {
		return nil, api.ErrArg
	}
	product := make([]uint32, len(a)+len(b))
	for i, times := range a {
		next := carrying(0)
		for j, n := range b {
			product[i+j] = next(uint64(n)*uint64(times) + uint64(product[i+j]))
		}
		product[i+len(b)] = next(0)
	}
	return bounded(product)
}

// Pow returns a power.
func Pow(a []uint32, n int) ([]uint32, api.Errno) {
	if !Right(a) || n < 0 {
		return nil, api.ErrArg
	}
	power, e := Of(1), api.OK
	// From the highest bit of n on, each power on the way is at most as great as the last one (or a is zero): if one is too long, so is the last one.
	for bit := bits.Len(uint(n)) - 1; bit >= 0 && e == api.OK; bit-- {
		power, e = Mul(power, power)
		if e == api.OK && n>>bit&1 == 1 {
			power, e = Mul(power, a)
		}
	}
	return power, e
}
