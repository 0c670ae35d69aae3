package grammar

import "iter"

// rest is the items of a rule from one on: the first of them, and the number of the rest that the others are.
type rest struct {
	first  Item
	others int
}

// nothing is the number of the rest without items.
const nothing = 0

// ends is where something can end, by the position where it begins.
type ends [MaxTokens + 1]places

// chart tells where symbols and rests can end in tokens. Whoever looks for trees along a chart comes to no dead end, however many trees there are.
type chart struct {
	tokens     []uint16
	rules      [MaxSymbols][]int // of each symbol, by their indices
	rights     []int             // the rest that all items of a rule are, for each rule
	rests      []rest            // equal ones have one number
	symbolEnds [MaxSymbols]ends
	restEnds   []ends
}

// newChart returns the chart of a valid grammar and tokens that are not too many.
func newChart(g []Rule, tokens []uint16) *chart {
	c := &chart{tokens: tokens, rests: []rest{nothing: {}}}
	numbers := map[rest]int{}
	for index, rule := range g {
		c.rules[rule.Left] = append(c.rules[rule.Left], index)
		c.rights = append(c.rights, c.number(rule.Right, numbers))
	}
	c.restEnds = make([]ends, len(c.rests))
	for from := len(tokens); from >= 0; from-- { // each item takes a token, so what is behind one is in the chart already
		c.findSymbols(from)
		c.findRests(from)
	}
	return c
}

// number returns the number of the rest that items are. Those that are new get the next numbers.
func (c *chart) number(items []Item, numbers map[rest]int) int {
	number := nothing
	for i := len(items) - 1; i >= 0; i-- {
		r := rest{items[i], number}
		known, is := numbers[r]
		if !is {
			known = len(c.rests)
			numbers[r] = known
			c.rests = append(c.rests, r)
		}
		number = known
	}
	return number
}

// findSymbols finds where trees of symbols end that begin at a position.
func (c *chart) findSymbols(from int) {
	for more := true; more; { // a tree can be the first part of one more, of any symbol, which begins where it does
		more = false
		for symbol, rules := range c.rules {
			found := c.symbolEnds[symbol][from]
			for _, rule := range rules {
				found |= c.restEnd(c.rights[rule], from)
			}
			more = more || found != c.symbolEnds[symbol][from]
			c.symbolEnds[symbol][from] = found
		}
	}
}

// findRests finds where rests end that begin at a position, if it is known where symbols end that begin there.
func (c *chart) findRests(from int) {
	c.restEnds[nothing][from] = place(from)
	for number := nothing + 1; number < len(c.rests); number++ {
		c.restEnds[number][from] = c.restEnd(number, from)
	}
}

// restEnd returns where a rest with items ends, by where its first item ends.
func (c *chart) restEnd(number, from int) places {
	r := c.rests[number]
	var found places
	for end := range c.itemEnds(r.first, from).all() {
		found |= c.restEnds[r.others][end]
	}
	return found
}

// itemEnds returns where an item ends.
func (c *chart) itemEnds(item Item, from int) places {
	switch {
	case item.Class == 0:
		return c.symbolEnds[item.Symbol][from]
	case from < len(c.tokens) && c.tokens[from]&item.Class != 0:
		return place(from + 1)
	}
	return 0
}

// splits yields where the first item of a rest can end, from the first place on, if the others end at a position.
func (c *chart) splits(r rest, from, to int) iter.Seq[int] {
	return func(yield func(int) bool) {
		for end := range c.itemEnds(r.first, from).all() {
			if c.restEnds[r.others][end].has(to) && !yield(end) {
				return
			}
		}
	}
}
