package grammar

// isTree reports whether t is a tree of a symbol, if it goes from one position of the tokens to another one. It looks into no part before all parts have their places. So it comes to an end even if t is a part of itself: each of several parts is shorter than the whole, and in a valid grammar no symbol derives itself.
func isTree(g []Rule, tokens []uint16, t Tree, symbol int) bool {
	if t.Rule < 0 || t.Rule >= len(g) || g[t.Rule].Left != symbol || !hasPlaces(g[t.Rule].Right, tokens, t) {
		return false
	}
	sub := t.Sub
	for _, item := range g[t.Rule].Right {
		if item.Class != 0 {
			continue
		}
		if !isTree(g, tokens, sub[0], item.Symbol) {
			return false
		}
		sub = sub[1:]
	}
	return true
}

// hasPlaces reports whether a tree has tokens that fit, and parts for its symbols, one behind the other.
func hasPlaces(items []Item, tokens []uint16, t Tree) bool {
	at, sub := t.From, t.Sub
	for _, item := range items {
		switch {
		case at >= t.To:
			return false
		case item.Class != 0:
			if tokens[at]&item.Class == 0 {
				return false
			}
			at++
		default:
			if len(sub) == 0 || sub[0].From != at || sub[0].To <= at {
				return false
			}
			at, sub = sub[0].To, sub[1:]
		}
	}
	return at == t.To && len(sub) == 0
}
