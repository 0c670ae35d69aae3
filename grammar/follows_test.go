package grammar

import (
	"math/big"
	"math/rand"
	"slices"
	"testing"
)

// uses counts how often a tree uses a rule.
func uses(t Tree, rule int) int {
	n := 0
	if t.Rule == rule {
		n++
	}
	for _, sub := range t.Sub {
		n += uses(sub, rule)
	}
	return n
}

// P9.5
func TestDerivationsAreDifferent(t *testing.T) {
	r := rand.New(rand.NewSource(96))
	for range 2000 {
		g, tokens := someGrammar(r, r.Intn(8), 3, 4), someTokens(r, 6)
		all := trees(t, g, tokens, MaxTrees)
		if number := count(t, g, tokens); number.Cmp(big.NewInt(MaxTrees)) <= 0 && len(all) != int(number.Int64()) {
			t.Fatalf("%v, %v: %d of %v derivations", g, tokens, len(all), number)
		}
		if recognised(t, g, tokens) != (len(all) > 0) {
			t.Fatalf("%v, %v: recognised, or not, with %d derivations", g, tokens, len(all))
		}
		for i, tree := range all {
			if !Right(g, tokens, tree) {
				t.Fatalf("%v, %v: %v is no derivation", g, tokens, tree)
			}
			if slices.ContainsFunc(all[:i], func(other Tree) bool { return equal(tree, other) }) {
				t.Fatalf("%v, %v: %v is there twice", g, tokens, tree)
			}
		}
	}
}

// P9.5
func TestMoreRulesAndClasses(t *testing.T) {
	r := rand.New(rand.NewSource(97))
	more := [2]int{}
	for range 6000 {
		g, tokens := someGrammar(r, r.Intn(8), 3, 4), someTokens(r, 6)
		number := count(t, g, tokens)
		if rule := someRule(r, 3, 4); !plainCycle(append(g[:len(g):len(g)], rule)) {
			o := count(t, slices.Insert(slices.Clone(g), r.Intn(len(g)+1), rule), tokens).Cmp(number)
			if o < 0 {
				t.Fatalf("%v, %v: less with the rule %v", g, tokens, rule)
			}
			more[0] += o
		}
		if len(tokens) == 0 {
			continue
		}
		wider := slices.Clone(tokens)
		wider[r.Intn(len(wider))] |= 1 << r.Intn(4)
		o := count(t, g, wider).Cmp(number)
		if o < 0 {
			t.Fatalf("%v: %v has less than %v", g, wider, tokens)
		}
		more[1] += o
	}
	if slices.Min(more[:]) < 100 {
		t.Error("too seldom there was more:", more)
	}
}

// P9.5
func TestRulesThatOccurTwice(t *testing.T) {
	r := rand.New(rand.NewSource(98))
	changed := 0
	for range 3000 {
		g, tokens := someGrammar(r, r.Intn(8), 3, 4), someTokens(r, 6)
		all := trees(t, g, tokens, MaxTrees)
		if len(g) == 0 || len(all) == MaxTrees {
			continue
		}
		twice := r.Intn(len(g))
		want := new(big.Int) // each use of the rule can be one of either
		for _, tree := range all {
			want.Add(want, new(big.Int).Lsh(big.NewInt(1), uint(uses(tree, twice))))
		}
		if n := count(t, append(slices.Clone(g), g[twice]), tokens); n.Cmp(want) != 0 {
			t.Fatalf("%v, %v, with the rule %d twice: %v, want %v", g, tokens, twice, n, want)
		}
		if want.Cmp(big.NewInt(int64(len(all)))) > 0 {
			changed++
		}
	}
	if changed < 200 {
		t.Errorf("only %d counts changed", changed)
	}
}
