package grammar

import (
	"cmp"
	"math/big"
	"math/rand"
	"slices"
	"testing"

	"letterbag/api"
	"letterbag/nat"
)

// What the chapter says, in the plainest way: other tests hold the package against this.

// sym is an item that is a symbol.
func sym(symbol int) Item { return Item{Symbol: symbol} }

// tok is an item that is a token.
func tok(class uint16) Item { return Item{Class: class} }

// gives is a rule.
func gives(left int, right ...Item) Rule { return Rule{left, right} }

// ofOnes lists n tokens of class 1.
func ofOnes(n int) []uint16 { return slices.Repeat([]uint16{1}, n) }

// doubling is the grammar of the chapter's examples.
func doubling() []Rule { return []Rule{gives(0, sym(0), sym(0)), gives(0, tok(1))} }

// chains is a grammar with as many trees of 40 tokens as there can be, more or less: every symbol comes behind another one in three ways.
func chains() []Rule {
	var g []Rule
	for symbol := range MaxSymbols - 1 {
		g = append(g, gives(symbol, sym(symbol+1)), gives(symbol, sym(symbol+1)), gives(symbol, sym(symbol+1)))
	}
	return append(g, gives(MaxSymbols-1, tok(1)), gives(MaxSymbols-1, sym(0), sym(0)))
}

// plainCycle reports whether a symbol derives itself: what derives what is found through each symbol in turn.
func plainCycle(g []Rule) bool {
	var derives [MaxSymbols][MaxSymbols]bool
	symbols := 0
	for _, rule := range g {
		symbols = max(symbols, rule.Left+1)
		if len(rule.Right) == 1 && rule.Right[0].Class == 0 {
			symbols = max(symbols, rule.Right[0].Symbol+1)
			derives[rule.Left][rule.Right[0].Symbol] = true
		}
	}
	for middle := range symbols {
		for a := range symbols {
			for b := range symbols {
				derives[a][b] = derives[a][b] || derives[a][middle] && derives[middle][b]
			}
		}
	}
	for symbol := range symbols {
		if derives[symbol][symbol] {
			return true
		}
	}
	return false
}

// plainTrees lists all trees of a symbol in the chapter's order: they are found in another one, and put in order then.
func plainTrees(g []Rule, tokens []uint16, symbol, from, to int) []Tree {
	var found []Tree
	for index := len(g) - 1; index >= 0; index-- {
		if g[index].Left != symbol {
			continue
		}
		for _, sub := range plainSubs(g, tokens, g[index].Right, from, to) {
			found = append(found, Tree{index, from, to, sub})
		}
	}
	slices.SortFunc(found, func(a, b Tree) int { return order(g, a, b) })
	return found
}

// plainSubs lists the trees of the symbols among items, for all ways in which these have parts.
func plainSubs(g []Rule, tokens []uint16, items []Item, from, to int) [][]Tree {
	if len(items) == 0 {
		if from == to {
			return [][]Tree{nil}
		}
		return nil
	}
	var found [][]Tree
	for end := to; end > from; end-- {
		all := plainSubs(g, tokens, items[1:], end, to)
		if len(all) == 0 {
			continue
		}
		for _, first := range plainParts(g, tokens, items[0], from, end) {
			for _, others := range all {
				found = append(found, slices.Concat(first, others))
			}
		}
	}
	return found
}

// plainParts lists the trees of an item, each in a list; one list without trees for a token that fits.
func plainParts(g []Rule, tokens []uint16, item Item, from, to int) [][]Tree {
	var found [][]Tree
	if item.Class != 0 {
		if to == from+1 && tokens[from]&item.Class != 0 {
			found = append(found, nil)
		}
		return found
	}
	for _, t := range plainTrees(g, tokens, item.Symbol, from, to) {
		found = append(found, []Tree{t})
	}
	return found
}

// order compares two trees of one symbol, from one position to the same one.
func order(g []Rule, a, b Tree) int {
	if a.Rule != b.Rule {
		return cmp.Compare(a.Rule, b.Rule)
	}
	sub := 0
	for _, item := range g[a.Rule].Right {
		if item.Class != 0 {
			continue // it ends one token behind where the item ahead of it ends
		}
		x, y := a.Sub[sub], b.Sub[sub]
		if o := cmp.Compare(x.To, y.To); o != 0 {
			return o
		}
		if o := order(g, x, y); o != 0 {
			return o
		}
		sub++
	}
	return 0
}

// equal reports whether two trees are the same.
func equal(a, b Tree) bool {
	return a.Rule == b.Rule && a.From == b.From && a.To == b.To && slices.EqualFunc(a.Sub, b.Sub, equal)
}

// tally counts trees as the chapter defines them.
type tally struct {
	g      []Rule
	tokens []uint16
	known  map[[4]int]*big.Int // for a rule, an item of it, and a span; for a symbol, -1, and a span
}

func newTally(g []Rule, tokens []uint16) *tally { return &tally{g, tokens, map[[4]int]*big.Int{}} }

// symbol counts the trees of a symbol.
func (y *tally) symbol(symbol, from, to int) *big.Int {
	key := [4]int{symbol, -1, from, to}
	if y.known[key] == nil {
		sum := new(big.Int)
		for index, rule := range y.g {
			if rule.Left == symbol {
				sum.Add(sum, y.items(index, 0, from, to))
			}
		}
		y.known[key] = sum
	}
	return y.known[key]
}

// items counts the ways in which the items of a rule from one on have parts.
func (y *tally) items(rule, item, from, to int) *big.Int {
	items := y.g[rule].Right[item:]
	switch {
	case to-from < len(items), len(items) == 0 && from < to:
		return new(big.Int)
	case len(items) == 0:
		return big.NewInt(1)
	}
	key := [4]int{rule, item, from, to}
	if y.known[key] == nil {
		sum := new(big.Int)
		for end := from + 1; end <= to; end++ {
			if behind := y.items(rule, item+1, end, to); behind.Sign() != 0 {
				sum.Add(sum, new(big.Int).Mul(y.item(items[0], from, end), behind))
			}
		}
		y.known[key] = sum
	}
	return y.known[key]
}

// item counts the parts of an item.
func (y *tally) item(item Item, from, to int) *big.Int {
	switch {
	case item.Class == 0:
		return y.symbol(item.Symbol, from, to)
	case to == from+1 && y.tokens[from]&item.Class != 0:
		return big.NewInt(1)
	}
	return new(big.Int)
}

// rank counts the trees that are ahead of one, of its symbol and from and to the same positions.
func (y *tally) rank(t Tree) *big.Int {
	rank := new(big.Int)
	for index := range t.Rule {
		if y.g[index].Left == y.g[t.Rule].Left {
			rank.Add(rank, y.items(index, 0, t.From, t.To))
		}
	}
	from, sub := t.From, t.Sub
	for i, item := range y.g[t.Rule].Right {
		end, inner := from+1, new(big.Int)
		if item.Class == 0 {
			end, inner, sub = sub[0].To, y.rank(sub[0]), sub[1:]
		}
		for earlier := from + 1; earlier < end; earlier++ {
			rank.Add(rank, new(big.Int).Mul(y.item(item, from, earlier), y.items(t.Rule, i+1, earlier, t.To)))
		}
		rank.Add(rank, inner.Mul(inner, y.items(t.Rule, i+1, end, t.To)))
		from = end
	}
	return rank
}

// someItem returns an item of some symbols and classes.
func someItem(r *rand.Rand, symbols int) Item {
	if r.Intn(2) == 0 {
		return sym(r.Intn(symbols))
	}
	return tok(1 + uint16(r.Intn(7)))
}

// someRule returns a rule of some symbols, with up to some items.
func someRule(r *rand.Rand, symbols, items int) Rule {
	rule := Rule{Left: r.Intn(symbols)}
	for range 1 + r.Intn(items) {
		rule.Right = append(rule.Right, someItem(r, symbols))
	}
	return rule
}

// someGrammar returns a grammar that has no cycle. Some symbols part into two, so that long lists of tokens have derivations, too.
func someGrammar(r *rand.Rand, rules, symbols, items int) []Rule {
	var g []Rule
	for symbol := range symbols {
		if r.Intn(2) == 0 {
			g = append(g, gives(symbol, someItem(r, symbols), someItem(r, symbols)), gives(symbol, tok(7)))
		}
	}
	for range rules {
		if rule := someRule(r, symbols, items); !plainCycle(append(g[:len(g):len(g)], rule)) {
			g = append(g, rule)
		}
	}
	return g
}

// someTokens lists up to most tokens: few of them fit nothing.
func someTokens(r *rand.Rand, most int) []uint16 {
	tokens := make([]uint16, r.Intn(most+1))
	for i := range tokens {
		tokens[i] = 1<<r.Intn(4) | 1<<r.Intn(4)
	}
	return tokens
}

// count returns the number of derivations, for arguments that are right.
func count(t testing.TB, g []Rule, tokens []uint16) *big.Int {
	t.Helper()
	limbs, e := Count(g, tokens)
	if e != api.OK || !nat.Right(limbs) {
		t.Fatalf("Count of %v, %v: %v %v", g, tokens, limbs, e)
	}
	text, _ := nat.Text(limbs)
	n, _ := new(big.Int).SetString(text, 10)
	return n
}

// recognised returns whether there is a derivation, for arguments that are right.
func recognised(t testing.TB, g []Rule, tokens []uint16) bool {
	t.Helper()
	is, e := Recognise(g, tokens)
	if e != api.OK {
		t.Fatalf("Recognise of %v, %v: %v", g, tokens, e)
	}
	return is
}

// trees returns the first derivations, for arguments that are right.
func trees(t testing.TB, g []Rule, tokens []uint16, most int) []Tree {
	t.Helper()
	l, e := Trees(g, tokens, most)
	if e != api.OK {
		t.Fatalf("Trees of %v, %v, %d: %v", g, tokens, most, e)
	}
	return l
}
