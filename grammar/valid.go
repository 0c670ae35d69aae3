package grammar

import "letterbag/api"

// validRule returns what is wrong with a rule alone.
func validRule(rule Rule) api.Errno {
	if !isSymbol(rule.Left) {
		return ErrSymbol
	}
	if len(rule.Right) == 0 || len(rule.Right) > MaxItems {
		return ErrItems
	}
	for _, item := range rule.Right {
		if !isSymbol(item.Symbol) || item.Class != 0 && item.Symbol != 0 {
			return ErrSymbol
		}
	}
	return api.OK
}

// isSymbol reports whether a number is that of a symbol.
func isSymbol(n int) bool { return n >= 0 && n < MaxSymbols }

// hasCycle reports whether a symbol derives itself. The rules are valid, each one alone.
func hasCycle(g []Rule) bool {
	alone := aloneBehind(g)
	var entered, left [MaxSymbols]bool
	var meetsItself func(symbol int) bool
	meetsItself = func(symbol int) bool {
		if entered[symbol] {
			return !left[symbol]
		}
		entered[symbol] = true
		for _, next := range alone[symbol] {
			if meetsItself(next) {
				return true
			}
		}
		left[symbol] = true
		return false
	}
	for symbol := range alone {
		if meetsItself(symbol) {
			return true
		}
	}
	return false
}

// aloneBehind lists for each symbol the symbols that are the only item of a rule of it.
func aloneBehind(g []Rule) [MaxSymbols][]int {
	var alone [MaxSymbols][]int
	for _, rule := range g {
		if len(rule.Right) == 1 && rule.Right[0].Class == 0 {
			alone[rule.Left] = append(alone[rule.Left], rule.Right[0].Symbol)
		}
	}
	return alone
}
