package lexicon

import (
	"cmp"
	"iter"
	"slices"
	"strings"

	"custos/api"
)

// step is a text that may follow what leads to a node.
type step struct {
	last int // the node of its last letter
	next int // the node from which the next text goes on
	cost int
}

// way is the best step from a node at a line, with the cost of all that follows.
type way struct {
	step
	known, open bool // open: there is a reading
}

// Near returns the words with the least costs.
func (x *Lexicon) Near(line [][]api.Option, most int) ([]Guess, api.Errno) {
	if !x.made() {
		return nil, api.ErrNil
	}
	s, e := newSheet(line)
	if e != api.OK {
		return nil, e
	}
	var l []Guess
	for one := range x.steps(root, s) {
		if one.last != root && one.next == root {
			l = append(l, Guess{Word: x.tree[one.last].text, Cost: one.cost})
		}
	}
	slices.SortStableFunc(l, func(a, b Guess) int { return cmp.Compare(a.Cost, b.Cost) })
	return l[:min(len(l), max(most, 0))], api.OK
}

// Spell returns the best reading of syllables and its cost.
func (x *Lexicon) Spell(lines [][][]api.Option) ([]string, int, api.Errno) {
	if !x.made() {
		return nil, 0, api.ErrNil
	}
	if len(lines) > MaxLines {
		return nil, 0, api.ErrMany
	}
	var sheets []sheet
	for _, line := range lines {
		s, e := newSheet(line)
		if e != api.OK {
			return nil, 0, e
		}
		sheets = append(sheets, s)
	}
	best := x.ways(sheets)
	first := best(root, 0)
	if !first.open {
		return nil, 0, api.ErrNone
	}
	n, texts := root, make([]string, len(lines))
	for i := range texts {
		w := best(n, i)
		texts[i], n = x.written(n, w.step), w.next
	}
	return texts, first.cost, api.OK
}

// ways returns a function that finds the best way from a node at a line.
func (t tree) ways(sheets []sheet) func(n, line int) way {
	found := make([][]way, len(sheets))
	var best func(n, line int) way
	best = func(n, line int) way {
		if line == len(sheets) {
			return way{open: n == root}
		}
		if found[line] == nil {
			found[line] = make([]way, len(t))
		}
		if w := found[line][n]; w.known {
			return w
		}
		out := way{known: true}
		for s := range t.steps(n, sheets[line]) {
			rest := best(s.next, line+1)
			s.cost += rest.cost
			// No two steps have the same text, and the least one comes first.
			if rest.open && (!out.open || s.cost < out.cost) {
				out.step, out.open = s, true
			}
		}
		found[line][n] = out
		return out
	}
	return best
}

// steps yields what a line may show behind a node, in the order of the texts: nothing, letters that end a word, or letters with a hyphen.
func (t tree) steps(n int, s sheet) iter.Seq[step] {
	return func(yield func(step) bool) {
		if !yield(step{last: n, next: n, cost: s.blanks[0]}) {
			return
		}
		var sums [MaxSigns + 1]int // the costs of the first letters; the nodes above a node come before it
		length := len(t[n].text)
		for i, one := range t.below(n, len(s.signs)) {
			letters := len(one.text) - length
			sum := sums[letters-1] + s.signs[letters-1][Letter(one.text[len(one.text)-1])]
			sums[letters] = sum
			if one.ends && !yield(step{last: i, next: root, cost: sum + s.blanks[letters]}) {
				return
			}
			if letters < len(s.signs) && !yield(step{last: i, next: i, cost: sum + s.signs[letters][hyphen] + s.blanks[letters+1]}) {
				return
			}
		}
	}
}

// written returns the text of a step from a node.
func (t tree) written(n int, s step) string {
	text := t[s.last].text[len(t[n].text):]
	if text != "" && s.next == s.last {
		text += "-"
	}
	return text
}

// Spelt reports whether texts are spelt.
func (x *Lexicon) Spelt(texts []string) bool {
	if !x.made() {
		return false
	}
	n := root
	for _, text := range texts {
		if text == "" {
			continue
		}
		letters, joined := strings.CutSuffix(text, "-")
		next, ok := x.find(n, letters)
		switch {
		case !ok || letters == "":
			return false
		case joined:
			n = next
		case x.tree[next].ends:
			n = root
		default:
			return false
		}
	}
	return n == root
}
