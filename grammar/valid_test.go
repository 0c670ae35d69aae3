package grammar

import (
	"math"
	"math/rand"
	"slices"
	"testing"

	"letterbag/api"
)

// line is a grammar in which each symbol but the last one is the one behind it.
func line(symbols int) []Rule {
	var g []Rule
	for symbol := range symbols - 1 {
		g = append(g, gives(symbol, sym(symbol+1)))
	}
	return append(g, gives(symbols-1, tok(1)))
}

// P9.1
func TestValidGrammars(t *testing.T) {
	for i, g := range [][]Rule{
		nil,
		{},
		doubling(),
		{gives(0, tok(1))},
		{gives(0, tok(math.MaxUint16))},
		{gives(63, sym(63), sym(63))},
		{gives(63, sym(0)), gives(0, sym(62))},
		{gives(5, sym(7))}, // a symbol without rules, and none of the symbol 0
		{gives(0, slices.Repeat([]Item{sym(0)}, MaxItems)...)},
		{gives(0, slices.Repeat([]Item{tok(1)}, MaxItems)...)},
		slices.Repeat([]Rule{gives(0, tok(1))}, MaxRules),
		slices.Repeat([]Rule{gives(0, sym(1))}, MaxRules),
		line(MaxSymbols),
		chains(), // more ways down than can be gone one by one
		// A symbol that occurs in its own rule, but not alone, derives more than itself.
		{gives(0, sym(0), tok(1))},
		{gives(0, tok(1), sym(0))},
		{gives(0, sym(1)), gives(1, sym(0), sym(1))},
		{gives(0, sym(1), sym(1)), gives(1, sym(0))},
		// Two ways to one symbol are no cycle.
		{gives(0, sym(1)), gives(0, sym(2)), gives(1, sym(3)), gives(2, sym(3)), gives(3, tok(1))},
		{gives(0, sym(2)), gives(1, sym(2)), gives(2, sym(3)), gives(0, sym(1))},
	} {
		if e := Valid(g); e != api.OK {
			t.Errorf("grammar %d: %v", i, e)
		}
	}
	if MaxRules != 200 || MaxSymbols != 64 || MaxItems != 8 || MaxTokens != 40 || MaxTrees != 200 {
		t.Error("a limit has another number")
	}
}

// wrong lists grammars that are not valid, with what is wrong with them.
func wrong() []struct {
	g    []Rule
	want api.Errno
} {
	good, cycle := gives(1, tok(1)), gives(0, sym(0))
	nine := slices.Repeat([]Item{tok(1)}, MaxItems+1)
	return []struct {
		g    []Rule
		want api.Errno
	}{
		{slices.Repeat([]Rule{good}, MaxRules+1), api.ErrMany},
		{make([]Rule, MaxRules+1), api.ErrMany},
		{slices.Repeat([]Rule{gives(-1)}, MaxRules+1), api.ErrMany},
		{slices.Repeat([]Rule{cycle}, 100000), api.ErrMany},
		// Symbols.
		{[]Rule{gives(-1, tok(1))}, ErrSymbol},
		{[]Rule{gives(MaxSymbols, tok(1))}, ErrSymbol},
		{[]Rule{gives(math.MinInt, tok(1))}, ErrSymbol},
		{[]Rule{gives(math.MaxInt, tok(1))}, ErrSymbol},
		{[]Rule{gives(0, sym(-1))}, ErrSymbol},
		{[]Rule{gives(0, sym(MaxSymbols))}, ErrSymbol},
		{[]Rule{gives(0, sym(math.MinInt))}, ErrSymbol},
		{[]Rule{gives(0, tok(1), tok(1), sym(math.MaxInt))}, ErrSymbol},
		{[]Rule{gives(0, Item{1, 1})}, ErrSymbol},
		{[]Rule{gives(0, Item{math.MaxUint16, 63})}, ErrSymbol},
		{[]Rule{gives(0, tok(1), Item{1, -1})}, ErrSymbol},
		{[]Rule{gives(0, append(slices.Repeat([]Item{tok(1)}, MaxItems-1), Item{1, 64})...)}, ErrSymbol},
		{append(slices.Repeat([]Rule{good}, MaxRules-1), gives(64, tok(1))), ErrSymbol},
		// Items.
		{[]Rule{gives(0)}, ErrItems},
		{[]Rule{{0, []Item{}}}, ErrItems},
		{[]Rule{gives(0, nine...)}, ErrItems},
		{[]Rule{gives(0, make([]Item, 1000000)...)}, ErrItems},
		{[]Rule{good, gives(0)}, ErrItems},
		// A symbol of the left side is wrong ahead of the number of items, and items are wrong behind it.
		{[]Rule{gives(-1)}, ErrSymbol},
		{[]Rule{gives(64, nine...)}, ErrSymbol},
		{[]Rule{gives(0, append(slices.Clone(nine), sym(-1))...)}, ErrItems},
		{[]Rule{gives(0, append([]Item{sym(-1)}, nine...)...)}, ErrItems},
		// The first rule that is wrong decides.
		{[]Rule{good, gives(0, sym(64)), gives(0)}, ErrSymbol},
		{[]Rule{good, gives(0), gives(0, sym(64))}, ErrItems},
		{[]Rule{gives(0), gives(-1)}, ErrItems},
		{[]Rule{gives(0, Item{1, 1}), gives(0)}, ErrSymbol},
		// Cycles.
		{[]Rule{cycle}, ErrCycle},
		{[]Rule{gives(63, sym(63))}, ErrCycle},
		{[]Rule{good, gives(0, sym(1)), gives(1, sym(0))}, ErrCycle},
		{[]Rule{gives(1, sym(0)), gives(0, sym(1)), good}, ErrCycle},
		{[]Rule{gives(0, tok(1)), gives(5, sym(6)), gives(6, sym(7)), gives(7, sym(5))}, ErrCycle}, // of symbols that the symbol 0 does not have
		{[]Rule{gives(0, sym(1)), gives(1, sym(2)), gives(2, sym(1)), gives(1, tok(1))}, ErrCycle}, // behind a symbol that is not in it
		{[]Rule{gives(0, sym(1)), gives(0, sym(2)), gives(1, sym(2)), gives(2, sym(3)), gives(3, sym(1))}, ErrCycle},
		{append(line(MaxSymbols), gives(MaxSymbols-1, sym(0))), ErrCycle},
		{append(chains(), gives(MaxSymbols-1, sym(0))), ErrCycle},
		{append(chains(), gives(MaxSymbols-1, sym(MaxSymbols-1))), ErrCycle},
		{append(slices.Repeat([]Rule{good}, MaxRules-1), cycle), ErrCycle},
		// What is wrong with a rule alone comes ahead of cycles.
		{[]Rule{cycle, gives(0)}, ErrItems},
		{[]Rule{cycle, gives(-1)}, ErrSymbol},
		{[]Rule{cycle, gives(0, sym(64))}, ErrSymbol},
	}
}

// P9.1
func TestValidErrors(t *testing.T) {
	for i, c := range wrong() {
		if e := Valid(c.g); e != c.want {
			t.Errorf("grammar %d: %v, want %v", i, e, c.want)
		}
	}
	if ErrSymbol != 90 || ErrItems != 91 || ErrCycle != 92 {
		t.Error("an error has another number")
	}
}

// P9.1
func TestValidFindsAllCycles(t *testing.T) {
	r := rand.New(rand.NewSource(91))
	cycles := 0
	for range 3000 {
		var g []Rule
		symbols := 1 + r.Intn(12)
		for range r.Intn(2 * symbols) {
			rule := gives(r.Intn(symbols), sym(r.Intn(symbols)))
			if r.Intn(8) == 0 {
				rule.Right = append(rule.Right, someItem(r, symbols))
			}
			g = append(g, rule)
		}
		want := api.OK
		if plainCycle(g) {
			want = ErrCycle
			cycles++
		}
		if e := Valid(g); e != want {
			t.Fatalf("%v: %v, want %v", g, e, want)
		}
	}
	if cycles < 500 || cycles > 2500 {
		t.Errorf("%d of 3000 grammars had cycles", cycles)
	}
}

// P9.3
func TestErrorsOfDerivations(t *testing.T) {
	for i, c := range wrong() {
		for _, tokens := range [][]uint16{nil, {1}, ofOnes(MaxTokens + 1)} {
			for _, most := range []int{0, 1, -1, MaxTrees + 1} {
				hasErrors(t, c.g, tokens, most, c.want, c.want)
			}
		}
		if t.Failed() {
			t.Fatal("grammar", i)
		}
	}
	for _, g := range [][]Rule{nil, doubling()} {
		for _, tokens := range []int{MaxTokens + 1, MaxTokens + 2, 1000000} {
			hasErrors(t, g, ofOnes(tokens), 1, api.ErrMany, api.ErrMany)
			hasErrors(t, g, ofOnes(tokens), -1, api.ErrMany, api.ErrMany)
			hasErrors(t, g, ofOnes(tokens), MaxTrees+1, api.ErrMany, api.ErrMany)
		}
		for _, most := range []int{-1, MaxTrees + 1, math.MinInt, math.MaxInt} {
			hasErrors(t, g, ofOnes(MaxTokens), most, api.OK, api.ErrArg)
			hasErrors(t, g, nil, most, api.OK, api.ErrArg)
		}
		for _, most := range []int{0, 1, MaxTrees - 1, MaxTrees} {
			hasErrors(t, g, ofOnes(MaxTokens), most, api.OK, api.OK)
		}
	}
}

// hasErrors checks the errors of Recognise and Count, and of Trees, and that there is nothing beside an error.
func hasErrors(t *testing.T, g []Rule, tokens []uint16, most int, want, wantTrees api.Errno) {
	t.Helper()
	if is, e := Recognise(g, tokens); e != want || e != api.OK && is {
		t.Errorf("Recognise with %d tokens: %v %v, want %v", len(tokens), is, e, want)
	}
	if n, e := Count(g, tokens); e != want || e != api.OK && len(n) > 0 {
		t.Errorf("Count with %d tokens: %v %v, want %v", len(tokens), n, e, want)
	}
	if l, e := Trees(g, tokens, most); e != wantTrees || e != api.OK && len(l) > 0 {
		t.Errorf("Trees with %d tokens, %d: %v %v, want %v", len(tokens), most, l, e, wantTrees)
	}
}
