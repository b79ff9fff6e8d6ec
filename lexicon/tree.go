package lexicon

import "iter"

// root is the node of the empty text.
const root = 0

// tree has a node for each beginning of a word, in the order of their texts: so the nodes below a node stand right behind it.
type tree []node

// node has the letters that may follow, each with the number of its node.
type node struct {
	text string
	ends bool // the text is a word
	next map[byte]int
}

// grown returns the tree of words, which are in order.
func grown(words []string) tree {
	t := tree{{}}
	for _, word := range words {
		n := root
		for i := range len(word) {
			n = t.put(n, word[:i+1])
		}
		t[n].ends = true
	}
	return t
}

// put returns the node of a text that is one letter longer than that of a node, a new one if there is none yet.
func (t *tree) put(n int, text string) int {
	l := *t
	letter := text[len(text)-1]
	if next, ok := l[n].next[letter]; ok {
		return next
	}
	if l[n].next == nil {
		l[n].next = map[byte]int{}
	}
	l[n].next[letter] = len(l)
	*t = append(l, node{text: text})
	return len(l)
}

// find returns the node to which letters lead from a node.
func (t tree) find(n int, letters string) (int, bool) {
	for i := range len(letters) {
		next, ok := t[n].next[letters[i]]
		if !ok {
			return root, false
		}
		n = next
	}
	return n, true
}

// below yields the nodes below a node that are at most some letters longer, in the order of their texts.
func (t tree) below(n, most int) iter.Seq2[int, node] {
	return func(yield func(int, node) bool) {
		length := len(t[n].text)
		for i := n + 1; i < len(t) && len(t[i].text) > length; i++ {
			if len(t[i].text)-length <= most && !yield(i, t[i]) {
				return
			}
		}
	}
}
