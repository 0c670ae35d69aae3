package nat

import (
	"math"
	"math/bits"

	"letterbag/api"
)

// DivMod returns the quotient, rounded down, and the remainder.
func DivMod(a, b []uint32) ([]uint32, []uint32, api.Errno) {
	if !Right(a) || !Right(b) || len(b) == 0 {
		return nil, nil, api.ErrArg
	}
	// Both are shifted until the highest bit of the divisor is set: that bounds how far a guess is off.
	shift := bits.LeadingZeros32(b[len(b)-1])
	rest, divisor := shifted(a, shift), shifted(b, shift)
	quotient := make([]uint32, max(len(a)-len(b)+1, 0))
	for i := len(quotient) - 1; i >= 0; i-- {
		quotient[i] = takeOften(rest[i:i+len(divisor)], divisor)
	}
	return trimmed(quotient), trimmed(shiftedBack(rest, shift)), api.OK
}

// takeOften takes a divisor from limbs as often as it fits, which is less than 2^32 times, and returns how often. There are as many limbs as the divisor has; its highest one is 0, and the highest bit of the next one is set.
func takeOften(from, divisor []uint32) uint32 {
	high := len(divisor) - 1
	top := uint64(from[high])<<limbBits | uint64(from[high-1])
	// The quotient of the highest limbs is never too low, and at most 2 too high.
	guess := uint32(min(top/uint64(divisor[high-1]), math.MaxUint32))
	tooOften := takeAway(from, divisor, guess)
	for tooOften {
		guess--
		tooOften = !putBack(from, divisor)
	}
	return guess
}

// putBack adds a number to as many limbs, and reports whether that settles what the highest one borrowed.
func putBack(to, number []uint32) bool {
	next := carrying(0)
	for i, n := range number {
		to[i] = next(uint64(to[i]) + uint64(n))
	}
	return next(0) > 0
}

// shifted returns new limbs, one more, with a number times 2 to the power of shift, which is less than 32.
func shifted(a []uint32, shift int) []uint32 {
	l := make([]uint32, len(a)+1)
	next := carrying(0)
	for i, n := range a {
		l[i] = next(uint64(n) << shift)
	}
	l[len(a)] = next(0)
	return l
}

// shiftedBack returns limbs after it has undone a shift in them.
func shiftedBack(l []uint32, shift int) []uint32 {
	for i := range l {
		l[i] = l[i]>>shift | limb(l, i+1)<<(limbBits-shift)
	}
	return l
}
