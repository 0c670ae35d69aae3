package grammar

import "letterbag/nat"

// span is a symbol or a rest, by its number, and from where to where it goes.
type span struct{ number, from, to int }

// counter counts trees along a chart, and keeps every number that it found.
type counter struct {
	*chart
	ofSymbols map[span][]uint32
	ofRests   map[span][]uint32
}

// newCounter returns a counter that has found no number yet.
func newCounter(c *chart) counter {
	return counter{c, map[span][]uint32{}, map[span][]uint32{}}
}

// countSymbol returns how many trees a symbol has.
func (c counter) countSymbol(symbol, from, to int) []uint32 {
	return kept(c.ofSymbols, span{symbol, from, to}, func() []uint32 {
		var sum []uint32
		for _, rule := range c.rules[symbol] {
			right := c.rights[rule]
			if c.restEnds[right][from].has(to) {
				sum = plus(sum, c.countRest(right, from, to))
			}
		}
		return sum
	})
}

// countRest returns in how many ways a rest can have parts, if it can end where it is to end.
func (c counter) countRest(number, from, to int) []uint32 {
	r := c.rests[number]
	if r.others == nothing {
		return c.countItem(r.first, from, to)
	}
	return kept(c.ofRests, span{number, from, to}, func() []uint32 {
		var sum []uint32
		for end := range c.splits(r, from, to) {
			sum = plus(sum, times(c.countItem(r.first, from, end), c.countRest(r.others, end, to)))
		}
		return sum
	})
}

// countItem returns how many parts an item can have, if it can end where it is to end.
func (c counter) countItem(item Item, from, to int) []uint32 {
	if item.Class != 0 {
		return nat.Of(1)
	}
	return c.countSymbol(item.Symbol, from, to)
}

// kept returns the number of a span, and finds it first if it is not there yet.
func kept(numbers map[span][]uint32, s span, find func() []uint32) []uint32 {
	number, is := numbers[s]
	if !is {
		number = find()
		numbers[s] = number
	}
	return number
}

// No number of trees is too long for nat, which has room for 2^32768: 40 tokens have less than 2^11000 trees. For a tree is told by the list of its rules, and at most 79 of them are not a symbol alone: 40 for tokens, and 39 where it parts. Each is one of 200, and ahead of it rules that are a symbol alone make one of less than 2^131 ways down, as no way has a symbol twice, and 200 rules of 64 symbols make no more of them.

// plus returns the sum of two numbers of trees.
func plus(a, b []uint32) []uint32 {
	sum, _ := nat.Add(a, b)
	return sum
}

// times returns the product of two numbers of trees.
func times(a, b []uint32) []uint32 {
	product, _ := nat.Mul(a, b)
	return product
}
