package edit

import "iter"

// step is what the steps of a kind do: how many bytes of one text they take, how many of the other one they write, and what they cost.
type step struct{ takes, writes, cost int }

// tell is a closure that tells what a step of a kind does, and whether it fits where the one text is left from i on, and the other one from j on.
type tell func(i, j int) (step, bool)

// steps returns what tells of the steps that turn a into b, by their kinds.
func steps(a, b string, c Costs) map[uint8]tell {
	return map[uint8]tell{
		OpKeep: func(i, j int) (step, bool) {
			return step{1, 1, 0}, i < len(a) && j < len(b) && a[i] == b[j]
		},
		OpChange: func(i, j int) (step, bool) {
			return step{1, 1, c.Change}, i < len(a) && j < len(b) && a[i] != b[j]
		},
		OpSwap: func(i, j int) (step, bool) {
			return step{2, 2, c.Swap}, i+1 < len(a) && j+1 < len(b) && a[i] != a[i+1] && a[i] == b[j+1] && a[i+1] == b[j]
		},
		OpDelete: func(i, j int) (step, bool) {
			return step{1, 0, c.Delete}, i < len(a)
		},
		OpInsert: func(i, j int) (step, bool) {
			return step{0, 1, c.Insert}, j < len(b)
		},
	}
}

// inOrder returns what tells of steps with their kinds as indices: it takes far less time to ask that than a map, place by place.
func inOrder(told map[uint8]tell) [OpInsert + 1]tell {
	var order [OpInsert + 1]tell
	for kind := OpKeep; kind <= OpInsert; kind++ {
		order[kind] = told[kind]
	}
	return order
}

// rows yields the rows of distances with their indices, the last one first: the row i has the distance from a[i:] to b[j:] at j. A row is overwritten when its turn comes again.
func rows(a, b string, c Costs) iter.Seq2[int, []int] {
	return func(yield func(int, []int) bool) {
		var turns [3][]int // no step takes more than two bytes, so none comes from farther away than the third row
		for i := range turns {
			turns[i] = make([]int, len(b)+1)
		}
		order := inOrder(steps(a, b, c))
		for i := len(a); i >= 0; i-- {
			row := turns[i%3]
			for j := len(b); j >= 0; j-- {
				row[j] = least(order, turns, i, j)
			}
			if !yield(i, row) {
				return
			}
		}
	}
}

// least returns the distance from where the one text is left from i on, and the other one from j on, by the distances that each step leads to.
func least(order [OpInsert + 1]tell, turns [3][]int, i, j int) int {
	distance, found := 0, false
	for _, does := range order[OpKeep:] {
		s, fits := does(i, j)
		if !fits {
			continue
		}
		d := s.cost + turns[(i+s.takes)%3][j+s.writes]
		if !found || d < distance {
			distance, found = d, true
		}
	}
	return distance
}

// firstPath returns the path from a to b, with the distances of all rows.
func firstPath(a, b string, c Costs, distances [][]int) []Op {
	var path []Op
	order := inOrder(steps(a, b, c))
	i, j := 0, 0
next:
	for i < len(a) || j < len(b) {
		for kind := OpKeep; kind <= OpInsert; kind++ {
			s, fits := order[kind](i, j)
			if !fits || s.cost+distances[i+s.takes][j+s.writes] != distances[i][j] {
				continue
			}
			path = append(path, opAt(kind, b[j:]))
			i, j = i+s.takes, j+s.writes
			continue next
		}
	}
	return path
}

// opAt returns the step of a kind that writes the beginning of a text.
func opAt(kind uint8, text string) Op {
	if kind == OpChange || kind == OpInsert {
		return Op{kind, text[0]}
	}
	return Op{Kind: kind}
}

// effect returns how many bytes of what is left of a text a step takes, and what it writes; false if it does not fit there.
func (op Op) effect(rest string) (takes int, writes string, fits bool) {
	switch {
	case op.Kind == OpInsert:
		return 0, string([]byte{op.Byte}), true
	case rest == "":
		return 0, "", false
	case op.Kind == OpChange:
		return 1, string([]byte{op.Byte}), rest[0] != op.Byte
	case op.Byte != 0:
		return 0, "", false
	case op.Kind == OpKeep:
		return 1, rest[:1], true
	case op.Kind == OpDelete:
		return 1, "", true
	case op.Kind == OpSwap && len(rest) > 1:
		return 2, string([]byte{rest[1], rest[0]}), rest[0] != rest[1]
	}
	return 0, "", false
}
