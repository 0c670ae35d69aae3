package lexicon

// node is where a text ends that words begin with: they share it.
type node struct {
	ends   bool // whether that text is itself a word
	number int  // the number of that word
	behind map[byte]*node
}

// add puts a word behind a node, with its number; false if it is there already.
func (n *node) add(word string, number int) bool {
	for i := range len(word) {
		n = n.open(word[i])
	}
	if n.ends {
		return false
	}
	n.ends, n.number = true, number
	return true
}

// open returns the node that is behind another one for a byte, and makes it if there is none.
func (n *node) open(b byte) *node {
	if n.behind == nil {
		n.behind = map[byte]*node{}
	}
	if n.behind[b] == nil {
		n.behind[b] = &node{}
	}
	return n.behind[b]
}

// at returns the node where a text ends; nil if no word begins with it.
func (n *node) at(text string) *node {
	for i := 0; i < len(text) && n != nil; i++ {
		n = n.behind[text[i]]
	}
	return n
}

// numbers returns the numbers of the words that end at a node or behind it, in no order that may be relied on.
func (n *node) numbers() []int {
	if n == nil {
		return nil
	}
	var l []int
	if n.ends {
		l = append(l, n.number)
	}
	for _, next := range n.behind {
		l = append(l, next.numbers()...)
	}
	return l
}
