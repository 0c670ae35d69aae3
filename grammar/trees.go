package grammar

import (
	"iter"
	"slices"
)

// trees yields the trees of a symbol, in order. They share what they have in common.
func (c *chart) trees(symbol, from, to int) iter.Seq[Tree] {
	return func(yield func(Tree) bool) {
		for _, rule := range c.rules[symbol] {
			for sub := range c.subs(c.rights[rule], from, to) {
				if !yield(Tree{rule, from, to, sub}) {
					return
				}
			}
		}
	}
}

// subs yields the trees that the symbols of a rest can have together, in order, each time as a list.
func (c *chart) subs(number, from, to int) iter.Seq[[]Tree] {
	return func(yield func([]Tree) bool) {
		if number == nothing {
			yield(nil)
			return
		}
		r := c.rests[number]
		for end := range c.splits(r, from, to) {
			for first := range c.parts(r.first, from, end) {
				for others := range c.subs(r.others, end, to) {
					if !yield(slices.Concat(first, others)) {
						return
					}
				}
			}
		}
	}
}

// parts yields the parts that an item can have, in order, each as a list: of one tree for a symbol, of none for a token.
func (c *chart) parts(item Item, from, to int) iter.Seq[[]Tree] {
	return func(yield func([]Tree) bool) {
		if item.Class != 0 {
			yield(nil)
			return
		}
		for t := range c.trees(item.Symbol, from, to) {
			if !yield([]Tree{t}) {
				return
			}
		}
	}
}

// cloned returns a tree that shares nothing with any other one.
func cloned(t Tree) Tree {
	t.Sub = slices.Clone(t.Sub)
	for i, sub := range t.Sub {
		t.Sub[i] = cloned(sub)
	}
	return t
}
