package grammar

import (
	"math"
	"math/big"
	"math/rand"
	"slices"
	"testing"
	"time"
)

// holds checks all that the package says of a grammar and tokens that are right, against the number and the first ones of the derivations.
func holds(t *testing.T, g []Rule, tokens []uint16, number *big.Int, first []Tree) {
	t.Helper()
	if n := count(t, g, tokens); n.Cmp(number) != 0 {
		t.Fatalf("%v, %v: the count is %v, want %v", g, tokens, n, number)
	}
	if is := recognised(t, g, tokens); is != (number.Sign() != 0) {
		t.Fatalf("%v, %v: recognised %v, but there are %v derivations", g, tokens, is, number)
	}
	for _, most := range []int{0, 1, 2, len(first) - 1, len(first), len(first) + 1, MaxTrees} {
		if most < 0 || most > MaxTrees {
			continue
		}
		want := first[:min(most, len(first))]
		if l := trees(t, g, tokens, most); !slices.EqualFunc(l, want, equal) {
			t.Fatalf("%v, %v: the first %d are %v, want %v", g, tokens, most, l, want)
		}
	}
}

// P9.2
func TestExamples(t *testing.T) {
	one := func(at int) Tree { return Tree{1, at, at + 1, nil} }
	two := func(at int) Tree { return Tree{0, at, at + 2, []Tree{one(at), one(at + 1)}} }
	holds(t, doubling(), ofOnes(3), big.NewInt(2), []Tree{
		{0, 0, 3, []Tree{one(0), two(1)}},
		{0, 0, 3, []Tree{two(0), one(2)}},
	})
	holds(t, doubling(), ofOnes(2), big.NewInt(1), []Tree{two(0)})
	holds(t, doubling(), ofOnes(1), big.NewInt(1), []Tree{one(0)})
	holds(t, doubling(), nil, new(big.Int), nil)
	for tokens, want := range map[int]string{4: "5", 20: "1767263190", 40: "680425371729975800390"} {
		if n := count(t, doubling(), ofOnes(tokens)); n.String() != want {
			t.Errorf("%d tokens: %v, want %s", tokens, n, want)
		}
	}
}

// P9.2
func TestDerivationsOfFewRules(t *testing.T) {
	leaf := func(rule, at int) Tree { return Tree{rule, at, at + 1, nil} }
	for _, c := range []struct {
		g      []Rule
		tokens []uint16
		want   []Tree
	}{
		{nil, nil, nil},
		{nil, []uint16{1}, nil},
		{[]Rule{gives(1, tok(1))}, []uint16{1}, nil}, // no rule of the symbol 0
		{[]Rule{gives(0, sym(1))}, []uint16{1}, nil}, // no rule of the symbol 1
		{[]Rule{gives(0, tok(1))}, nil, nil},
		{[]Rule{gives(0, tok(1))}, []uint16{1, 1}, nil},
		{[]Rule{gives(0, tok(1), tok(1))}, []uint16{1}, nil},
		// A tree has the trees of symbols only, and says where it is.
		{[]Rule{gives(0, tok(1), sym(1), tok(2), sym(1)), gives(1, tok(4))}, []uint16{1, 4, 2, 4}, []Tree{{0, 0, 4, []Tree{leaf(1, 1), leaf(1, 3)}}}},
		{[]Rule{gives(0, tok(1), tok(2), tok(4))}, []uint16{1, 2, 4}, []Tree{{0, 0, 3, nil}}},
		{[]Rule{gives(0, tok(1), tok(2), tok(4))}, []uint16{1, 4, 2}, nil},
		// The first rule comes first, even where its items end later.
		{[]Rule{gives(0, sym(1), tok(1)), gives(0, tok(1), sym(1)), gives(1, tok(1), tok(1))}, ofOnes(3), []Tree{{0, 0, 3, []Tree{{2, 0, 2, nil}}}, {1, 0, 3, []Tree{{2, 1, 3, nil}}}}},
		{[]Rule{gives(0, tok(1)), gives(0, tok(1))}, ofOnes(1), []Tree{leaf(0, 0), leaf(1, 0)}},
		{[]Rule{gives(1, tok(1)), gives(0, sym(1)), gives(1, tok(1))}, ofOnes(1), []Tree{{1, 0, 1, []Tree{leaf(0, 0)}}, {1, 0, 1, []Tree{leaf(2, 0)}}}},
		// An item that ends earlier comes first, even by a later rule.
		{[]Rule{gives(0, sym(1), sym(1)), gives(1, tok(1), tok(1)), gives(1, tok(1))}, ofOnes(3), []Tree{
			{0, 0, 3, []Tree{leaf(2, 0), {1, 1, 3, nil}}},
			{0, 0, 3, []Tree{{1, 0, 2, nil}, leaf(2, 2)}},
		}},
		// The first item that differs decides: with its tree ahead of where the next one ends.
		{[]Rule{gives(0, sym(1), sym(1), sym(1)), gives(1, tok(1), tok(1)), gives(1, tok(1)), gives(1, tok(1))}, ofOnes(4), []Tree{
			{0, 0, 4, []Tree{leaf(2, 0), leaf(2, 1), {1, 2, 4, nil}}},
			{0, 0, 4, []Tree{leaf(2, 0), leaf(3, 1), {1, 2, 4, nil}}},
			{0, 0, 4, []Tree{leaf(2, 0), {1, 1, 3, nil}, leaf(2, 3)}},
			{0, 0, 4, []Tree{leaf(2, 0), {1, 1, 3, nil}, leaf(3, 3)}},
			{0, 0, 4, []Tree{leaf(3, 0), leaf(2, 1), {1, 2, 4, nil}}},
			{0, 0, 4, []Tree{leaf(3, 0), leaf(3, 1), {1, 2, 4, nil}}},
			{0, 0, 4, []Tree{leaf(3, 0), {1, 1, 3, nil}, leaf(2, 3)}},
			{0, 0, 4, []Tree{leaf(3, 0), {1, 1, 3, nil}, leaf(3, 3)}},
			{0, 0, 4, []Tree{{1, 0, 2, nil}, leaf(2, 2), leaf(2, 3)}},
			{0, 0, 4, []Tree{{1, 0, 2, nil}, leaf(2, 2), leaf(3, 3)}},
			{0, 0, 4, []Tree{{1, 0, 2, nil}, leaf(3, 2), leaf(2, 3)}},
			{0, 0, 4, []Tree{{1, 0, 2, nil}, leaf(3, 2), leaf(3, 3)}},
		}},
	} {
		holds(t, c.g, c.tokens, big.NewInt(int64(len(c.want))), c.want)
	}
}

// P9.2
func TestClassesThatFit(t *testing.T) {
	for _, c := range []struct {
		class, token uint16
		fits         bool
	}{
		{1, 1, true}, {1, 0, false}, {1, 2, false}, {1, 3, true}, {1, math.MaxUint16 - 1, false},
		{6, 1, false}, {6, 2, true}, {6, 4, true}, {6, 6, true}, {6, 9, false}, {6, 15, true},
		{1 << 15, 1 << 15, true}, {1 << 15, 1<<15 - 1, false}, {1 << 15, math.MaxUint16, true},
		{math.MaxUint16, 0, false}, {math.MaxUint16, 1 << 7, true}, {math.MaxUint16, math.MaxUint16, true},
	} {
		var want []Tree
		if c.fits { // once, however many bits are in common
			want = []Tree{{0, 0, 1, nil}}
		}
		holds(t, []Rule{gives(0, tok(c.class))}, []uint16{c.token}, big.NewInt(int64(len(want))), want)
	}
}

// P9.2
func TestSmallGrammars(t *testing.T) {
	r := rand.New(rand.NewSource(92))
	many := [3]int{}
	for range 10000 {
		g, tokens := someGrammar(r, r.Intn(8), 3, 4), someTokens(r, 6)
		number := newTally(g, tokens).symbol(0, 0, len(tokens))
		if number.Cmp(big.NewInt(MaxTrees-1)) > 0 {
			many[2]++
			if n := count(t, g, tokens); n.Cmp(number) != 0 {
				t.Fatalf("%v, %v: %v, want %v", g, tokens, n, number)
			}
			continue
		}
		want := plainTrees(g, tokens, 0, 0, len(tokens))
		if len(want) != int(number.Int64()) {
			t.Fatalf("%v, %v: the plain ways differ: %d and %v", g, tokens, len(want), number)
		}
		many[min(len(want), 1)]++
		holds(t, g, tokens, number, want)
	}
	if slices.Min(many[:]) < 30 {
		t.Error("there were too few grammars of a kind:", many)
	}
}

// P9.2
func TestLargeGrammars(t *testing.T) {
	r := rand.New(rand.NewSource(93))
	found := 0
	for range 25 {
		g, tokens := someGrammar(r, 60, 1+r.Intn(12), MaxItems), someTokens(r, MaxTokens)
		for i := range tokens {
			tokens[i] |= 1 << r.Intn(3)
		}
		found += len(hasRanks(t, g, tokens))
	}
	if found < 1000 {
		t.Errorf("only %d derivations were found", found)
	}
}

// P9.2
func TestGrammarsAtTheLimits(t *testing.T) {
	eights := append(slices.Repeat([]Rule{gives(0, slices.Repeat([]Item{sym(0)}, MaxItems)...)}, MaxRules-2), doubling()...)
	for _, tokens := range []int{1, 2, 8, 9, 15} {
		for _, g := range [][]Rule{doubling(), eights, chains(), line(MaxSymbols)} {
			hasRanks(t, g, ofOnes(tokens))
		}
	}
	hasRanks(t, doubling(), ofOnes(MaxTokens))
	// As many rules, symbols, items and tokens as there can be, all different.
	r := rand.New(rand.NewSource(94))
	var all []Rule
	for symbol := range MaxSymbols {
		all = append(all, gives(symbol, tok(1)), gives(symbol, sym(r.Intn(MaxSymbols)), sym(r.Intn(MaxSymbols))))
	}
	for len(all) < MaxRules {
		rule := gives(r.Intn(MaxSymbols))
		for range MaxItems {
			rule.Right = append(rule.Right, sym(r.Intn(MaxSymbols)))
		}
		all = append(all, rule)
	}
	hasRanks(t, all, ofOnes(14))
	begun := time.Now()
	for _, g := range [][]Rule{all, eights, chains()} {
		if n := count(t, g, ofOnes(MaxTokens)); n.Sign() == 0 || len(trees(t, g, ofOnes(MaxTokens), MaxTrees)) < MaxTrees {
			t.Error(n)
		}
	}
	if took := time.Since(begun); took > 60*time.Second {
		t.Error("that took", took)
	}
}

// hasRanks checks a grammar with any number of derivations: each one that is returned must have as many ahead of it as its index says.
func hasRanks(t *testing.T, g []Rule, tokens []uint16) []Tree {
	t.Helper()
	plain := newTally(g, tokens)
	number := plain.symbol(0, 0, len(tokens))
	if n := count(t, g, tokens); n.Cmp(number) != 0 {
		t.Fatalf("%v, %v: the count is %v, want %v", g, tokens, n, number)
	}
	if is := recognised(t, g, tokens); is != (number.Sign() != 0) {
		t.Fatalf("%v, %v: recognised %v, but there are %v derivations", g, tokens, is, number)
	}
	first := trees(t, g, tokens, MaxTrees)
	if want := big.NewInt(MaxTrees); len(first) < MaxTrees && number.Cmp(big.NewInt(int64(len(first)))) != 0 || number.Cmp(want) < 0 && len(first) == MaxTrees {
		t.Fatalf("%v, %v: %d derivations of %v", g, tokens, len(first), number)
	}
	for i, tree := range first {
		if !Right(g, tokens, tree) {
			t.Fatalf("%v, %v: %v is no derivation", g, tokens, tree)
		}
		if rank := plain.rank(tree); rank.Cmp(big.NewInt(int64(i))) != 0 {
			t.Fatalf("%v, %v: the derivation %d has the rank %v", g, tokens, i, rank)
		}
	}
	return first
}

// P9.2
func TestNumbersWithFormulas(t *testing.T) {
	binomial := func(n, k int) *big.Int { return new(big.Int).Binomial(int64(n), int64(k)) }
	// Trees in which all that part have 8 parts: of 7 * k + 1 tokens, there are (8 * k over k) / (7 * k + 1).
	eight := []Rule{gives(0, slices.Repeat([]Item{sym(0)}, MaxItems)...), gives(0, tok(1))}
	for tokens := range MaxTokens + 1 {
		want := new(big.Int)
		if tokens%7 == 1 {
			want.Div(binomial(8*(tokens/7), tokens/7), big.NewInt(int64(tokens)))
		}
		if n := count(t, eight, ofOnes(tokens)); n.Cmp(want) != 0 {
			t.Errorf("parts of eight, %d tokens: %v, want %v", tokens, n, want)
		}
	}
	// Each symbol 0 of a tree with 40 tokens, 79 of them, has 3^63 ways down to what it parts into, or to its token.
	catalan := new(big.Int).Div(binomial(78, 39), big.NewInt(40))
	want := new(big.Int).Exp(big.NewInt(3), big.NewInt(63*79), nil)
	want.Mul(want, catalan)
	if n := count(t, chains(), ofOnes(MaxTokens)); n.Cmp(want) != 0 {
		t.Errorf("chains: %v, want %v", n, want)
	}
	// Rules that occur more than once.
	many := append(slices.Repeat([]Rule{gives(0, sym(0), sym(0))}, 150), slices.Repeat([]Rule{gives(0, tok(1))}, 50)...)
	want.Exp(big.NewInt(150), big.NewInt(39), nil)
	want.Mul(want, new(big.Int).Exp(big.NewInt(50), big.NewInt(40), nil)).Mul(want, catalan)
	if n := count(t, many, ofOnes(MaxTokens)); n.Cmp(want) != 0 {
		t.Errorf("rules that occur often: %v, want %v", n, want)
	}
}

// P9.2, R1: what has no derivation behind very many beginnings does not take longer than anything else.
func TestDeadEnds(t *testing.T) {
	begun := time.Now()
	for _, g := range [][]Rule{
		{gives(0, sym(1), tok(2)), gives(1, sym(1), sym(1)), gives(1, tok(1))},
		{gives(0, sym(1), sym(1), sym(2)), gives(1, sym(1), sym(1)), gives(1, tok(1)), gives(2, sym(1), sym(2)), gives(2, tok(2))},
		{gives(0, tok(2), sym(1)), gives(1, sym(1), sym(1)), gives(1, tok(1))},
		append(chains()[:MaxSymbols*3-3], gives(MaxSymbols-1, sym(0), sym(0)), gives(MaxSymbols-1, tok(2))),
	} {
		holds(t, g, ofOnes(MaxTokens), new(big.Int), nil)
	}
	if took := time.Since(begun); took > 20*time.Second {
		t.Error("that took", took)
	}
}

// R3, R4
func TestResultsShareNothing(t *testing.T) {
	for _, g := range [][]Rule{doubling(), chains(), {gives(0, sym(1), sym(1)), gives(1, sym(2)), gives(1, sym(2), sym(2)), gives(2, tok(1)), gives(2, tok(1))}} {
		tokens := append(ofOnes(4), 9)[:4]
		a, b := trees(t, g, tokens, MaxTrees), trees(t, g, tokens, MaxTrees)
		seen := map[*Tree]bool{}
		for _, l := range [][]Tree{a, b} {
			addresses(t, l, seen)
		}
		if !slices.EqualFunc(a, b, equal) {
			t.Error("two calls have different results")
		}
		n, _ := Count(g, tokens)
		n[0]++
		if again, _ := Count(g, tokens); again[0] != n[0]-1 {
			t.Error("a count changed with an earlier result")
		}
		if !slices.Equal(tokens[:5], []uint16{1, 1, 1, 1, 9}) {
			t.Error("tokens were changed")
		}
	}
}

// addresses checks that no tree of a list is where another one is, nor what is behind the list's end.
func addresses(t *testing.T, l []Tree, seen map[*Tree]bool) {
	t.Helper()
	for i := range l[:cap(l)] {
		if seen[&l[:cap(l)][i]] {
			t.Fatal("two results share memory")
		}
		seen[&l[:cap(l)][i]] = true
	}
	for _, tree := range l {
		addresses(t, tree.Sub, seen)
	}
}

// R3
func TestArgumentsAreNotChanged(t *testing.T) {
	rules := func() []Rule {
		spare := []Item{sym(0), sym(0), sym(63), tok(8)}
		return []Rule{{0, spare[:2]}, {0, []Item{tok(1)}}, {9, []Item{tok(2)}}, {99, nil}}[:3]
	}
	g, tree := rules(), Tree{0, 0, 2, []Tree{{1, 0, 1, nil}, {1, 1, 2, nil}, {7, 7, 7, nil}}[:2]}
	Valid(g)
	recognised(t, g, ofOnes(2))
	count(t, g, ofOnes(2))
	trees(t, g, ofOnes(2), 5)
	if !Right(g, ofOnes(2), tree) {
		t.Error("a derivation was not right")
	}
	same := func(a, b Rule) bool {
		return a.Left == b.Left && slices.Equal(a.Right[:cap(a.Right)], b.Right[:cap(b.Right)])
	}
	if !slices.EqualFunc(g[:4], rules()[:4], same) || !equal(tree, Tree{0, 0, 2, []Tree{{1, 0, 1, nil}, {1, 1, 2, nil}}}) || !equal(tree.Sub[:3][2], Tree{7, 7, 7, nil}) {
		t.Error("an argument was changed")
	}
}
