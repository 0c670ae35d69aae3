package grammar

import (
	"iter"
	"math/bits"
)

// places is a set of positions between tokens, with a bit for each.
type places uint64

// place returns the set of one position.
func place(at int) places { return 1 << at }

// has reports whether a position is in a set.
func (p places) has(at int) bool { return p&place(at) != 0 }

// all yields the positions in a set, from the first one on.
func (p places) all() iter.Seq[int] {
	return func(yield func(int) bool) {
		for left := p; left != 0; left &= left - 1 {
			if !yield(bits.TrailingZeros64(uint64(left))) {
				return
			}
		}
	}
}
