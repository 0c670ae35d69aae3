package grammar

import (
	"math"
	"math/rand"
	"slices"
	"testing"

	"letterbag/api"
)

// P9.4
func TestRightOfExamples(t *testing.T) {
	one := func(at int) Tree { return Tree{1, at, at + 1, nil} }
	two := func(at int) Tree { return Tree{0, at, at + 2, []Tree{one(at), one(at + 1)}} }
	right := Tree{0, 0, 3, []Tree{one(0), two(1)}}
	mixed := []Rule{gives(0, sym(1), sym(2)), gives(1, tok(1)), gives(2, tok(2)), gives(0, tok(1), tok(2)), gives(0, sym(1), tok(2))}
	for i, c := range []struct {
		g      []Rule
		tokens []uint16
		t      Tree
		want   bool
	}{
		{doubling(), ofOnes(3), right, true},
		{doubling(), ofOnes(3), Tree{0, 0, 3, []Tree{two(0), one(2)}}, true},
		{doubling(), ofOnes(1), one(0), true},
		{doubling(), ofOnes(1), Tree{1, 0, 1, []Tree{}}, true},
		// Tokens that it is none of.
		{doubling(), ofOnes(2), right, false},
		{doubling(), ofOnes(4), right, false},
		{doubling(), nil, right, false},
		{doubling(), nil, Tree{}, false},
		{doubling(), nil, Tree{1, 0, 0, nil}, false},
		{doubling(), []uint16{1, 2, 1}, right, false},
		{doubling(), []uint16{1, 1, 0}, right, false},
		{doubling(), []uint16{3, 5, 9}, right, true},
		{doubling(), ofOnes(3), two(0), false},
		{doubling(), ofOnes(3), two(1), false},
		{doubling(), ofOnes(3), one(1), false},
		// Rules.
		{doubling(), ofOnes(1), Tree{0, 0, 1, nil}, false},
		{doubling(), ofOnes(1), Tree{2, 0, 1, nil}, false},
		{doubling(), ofOnes(1), Tree{-1, 0, 1, nil}, false},
		{doubling(), ofOnes(1), Tree{math.MaxInt, 0, 1, nil}, false},
		{doubling(), ofOnes(1), Tree{math.MinInt, 0, 1, nil}, false},
		{nil, ofOnes(1), Tree{0, 0, 1, nil}, false},
		{mixed, []uint16{1, 2}, Tree{0, 0, 2, []Tree{{1, 0, 1, nil}, {2, 1, 2, nil}}}, true},
		{mixed, []uint16{1, 2}, Tree{3, 0, 2, nil}, true},
		{mixed, []uint16{1, 2}, Tree{4, 0, 2, []Tree{{1, 0, 1, nil}}}, true},
		{mixed, []uint16{1, 2}, Tree{4, 0, 2, nil}, false},
		{mixed, []uint16{1, 2}, Tree{3, 0, 2, []Tree{{1, 0, 1, nil}}}, false},
		{mixed, []uint16{1, 1}, Tree{4, 0, 2, []Tree{{1, 0, 1, nil}}}, false},
		{mixed, []uint16{3, 3}, Tree{0, 0, 2, []Tree{{2, 0, 1, nil}, {1, 1, 2, nil}}}, false}, // both fit, but not for these symbols
		{mixed, []uint16{1}, Tree{1, 0, 1, nil}, false},                                       // a tree, but of the symbol 1
		// Parts.
		{doubling(), ofOnes(2), Tree{0, 0, 2, nil}, false},
		{doubling(), ofOnes(2), Tree{0, 0, 2, []Tree{one(0)}}, false},
		{doubling(), ofOnes(2), Tree{0, 0, 2, []Tree{one(1)}}, false},
		{doubling(), ofOnes(2), Tree{0, 0, 2, []Tree{one(1), one(0)}}, false},
		{doubling(), ofOnes(2), Tree{0, 0, 2, []Tree{one(0), one(0)}}, false},
		{doubling(), ofOnes(2), Tree{0, 0, 2, []Tree{one(0), one(1), one(1)}}, false},
		{doubling(), ofOnes(2), Tree{0, 0, 2, []Tree{one(0), one(1), {1, 2, 2, nil}}}, false},
		{doubling(), ofOnes(3), Tree{0, 0, 3, []Tree{one(0), one(2)}}, false},
		{doubling(), ofOnes(3), Tree{0, 0, 3, []Tree{two(0), two(1)}}, false},
		{doubling(), ofOnes(2), Tree{0, 0, 2, []Tree{one(0), {1, 1, 3, nil}}}, false},
		{doubling(), ofOnes(2), Tree{0, 0, 2, []Tree{one(0), {1, 1, 1, nil}}}, false},
		{doubling(), ofOnes(2), Tree{0, 0, 2, []Tree{{1, 0, 2, nil}, {1, 2, 2, nil}}}, false},
		{doubling(), ofOnes(2), Tree{0, 0, 2, []Tree{{1, -1, 1, nil}, one(1)}}, false},
		// Places that there are none of.
		{doubling(), ofOnes(2), Tree{0, 0, math.MaxInt, []Tree{one(0), {1, 1, math.MaxInt, nil}}}, false},
		{doubling(), ofOnes(2), Tree{0, 0, 2, []Tree{{1, 0, math.MaxInt, nil}, {1, math.MaxInt, 2, nil}}}, false},
		{doubling(), ofOnes(2), Tree{0, 0, 2, []Tree{{1, 0, math.MinInt, nil}, {1, math.MinInt, 2, nil}}}, false},
		{doubling(), ofOnes(2), Tree{0, math.MinInt, 2, []Tree{{1, math.MinInt, 1, nil}, one(1)}}, false},
		{doubling(), ofOnes(1), Tree{1, -1, 0, nil}, false},
		{doubling(), ofOnes(1), Tree{1, 1, 0, nil}, false},
		{doubling(), ofOnes(1), Tree{1, 1, 2, nil}, false},
	} {
		if is := Right(c.g, c.tokens, c.t); is != c.want {
			t.Errorf("tree %d: %v of %v: %v", i, c.t, c.tokens, is)
		}
	}
}

// P9.4: a tree is right for grammars and tokens only that the other functions take.
func TestRightOfWhatIsNotValid(t *testing.T) {
	leaf := Tree{0, 0, 1, nil}
	first := gives(0, tok(1))
	if !Right([]Rule{first}, ofOnes(1), leaf) {
		t.Fatal("a derivation is not right")
	}
	for i, c := range wrong() {
		for _, g := range [][]Rule{c.g, append([]Rule{first}, c.g...)} {
			if e := Valid(g); e != api.OK && Right(g, ofOnes(1), leaf) {
				t.Errorf("grammar %d is not valid, and has a derivation", i)
			}
		}
	}
	list := []Rule{gives(0, sym(1), sym(0)), gives(0, sym(1)), gives(1, tok(1))}
	of := func(n int) Tree {
		last := Tree{1, n - 1, n, []Tree{{2, n - 1, n, nil}}}
		for at := n - 2; at >= 0; at-- {
			last = Tree{0, at, n, []Tree{{2, at, at + 1, nil}, last}}
		}
		return last
	}
	if !Right(list, ofOnes(MaxTokens), of(MaxTokens)) {
		t.Error("a derivation of 40 tokens is not right")
	}
	if Right(list, ofOnes(MaxTokens+1), of(MaxTokens+1)) {
		t.Error("41 tokens have a derivation")
	}
}

// P9.4, R1: a tree that is a part of itself is no derivation.
func TestRightOfTreesWithoutAnEnd(t *testing.T) {
	loop := func(trees ...Tree) Tree { // each tree is the part of the one ahead of it, and the first one that of the last one
		l := make([][]Tree, len(trees))
		for i, tree := range trees {
			l[i] = []Tree{tree}
		}
		for i := range l {
			l[i][0].Sub = l[(i+1)%len(l)]
		}
		return l[0][0]
	}
	both := make([]Tree, 2)
	both[0], both[1] = Tree{0, 0, 2, both}, Tree{0, 0, 2, both}
	unit := []Rule{gives(0, sym(1)), gives(1, sym(2)), gives(2, tok(1)), gives(2, sym(0), sym(0))}
	for i, c := range []struct {
		g []Rule
		t Tree
	}{
		{doubling(), loop(Tree{0, 0, 2, nil})},
		{doubling(), loop(Tree{1, 0, 2, nil})},
		{doubling(), both[0]},
		{unit, loop(Tree{0, 0, 2, nil})},
		{unit, loop(Tree{0, 0, 2, nil}, Tree{1, 0, 2, nil})},
		{unit, loop(Tree{0, 0, 2, nil}, Tree{1, 0, 2, nil}, Tree{2, 0, 2, nil})},
		{unit, loop(Tree{0, 0, 2, nil}, Tree{1, 0, 2, nil}, Tree{3, 0, 2, nil})},
		{[]Rule{gives(0, sym(0))}, loop(Tree{0, 0, 2, nil})}, // a cycle: no grammar
		{[]Rule{gives(0, sym(0), sym(0)), gives(0, tok(1))}, Tree{0, 0, 2, slices.Repeat(both, 1000000)}},
	} {
		if Right(c.g, ofOnes(2), c.t) {
			t.Error("it is right:", i)
		}
	}
}

// P9.4
func TestRightOfChangedTrees(t *testing.T) {
	r := rand.New(rand.NewSource(95))
	rights, wrongs := 0, 0
	for range 2000 {
		g, tokens := someGrammar(r, r.Intn(8), 3, 3), someTokens(r, 5)
		all := trees(t, g, tokens, MaxTrees)
		if len(all) == MaxTrees {
			continue
		}
		for _, tree := range all {
			for range 20 {
				changed := cloned(tree)
				for range 1 + r.Intn(2) {
					change(r, g, &changed)
				}
				isThere := slices.ContainsFunc(all, func(other Tree) bool { return equal(changed, other) })
				if isThere {
					rights++
				} else {
					wrongs++
				}
				if is := Right(g, tokens, changed); is != isThere {
					t.Fatalf("%v, %v: %v is right: %v", g, tokens, changed, is)
				}
			}
		}
	}
	if rights < 1000 || wrongs < 10000 {
		t.Errorf("%d changed trees were right, %d wrong", rights, wrongs)
	}
}

// change changes something somewhere in a tree.
func change(r *rand.Rand, g []Rule, t *Tree) {
	for len(t.Sub) > 0 && r.Intn(3) > 0 {
		t = &t.Sub[r.Intn(len(t.Sub))]
	}
	switch r.Intn(6) {
	case 0, 1:
		t.Rule = r.Intn(len(g)+2) - 1
	case 2:
		t.From += r.Intn(3) - 1
	case 3:
		t.To += r.Intn(3) - 1
	case 4:
		t.Sub = append(t.Sub, Tree{r.Intn(len(g)), t.From, t.To, nil})
	case 5:
		if len(t.Sub) > 0 {
			i, j := r.Intn(len(t.Sub)), r.Intn(len(t.Sub))
			t.Sub[i] = cloned(t.Sub[j])
		}
	}
}
