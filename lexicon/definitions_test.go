package lexicon_test

import (
	"slices"
	"sort"
	"strings"

	"custos/api"
	"custos/lexicon"
)

// The functions of this file say what the chapter says, in other words than the program.

// characterCost returns the cost of a character at a sign.
func characterCost(sign []api.Option, character int) int {
	for _, o := range sign {
		if o.Value == character {
			return o.Miss
		}
	}
	return 1000000
}

// costBy returns the cost of a text, and whether it has one.
func costBy(l line, text string) (int, bool) {
	cost := 0
	for i, sign := range l {
		character := 0
		if i < len(text) {
			character = strings.IndexByte("_abcdefghijklmnopqrstuvwxyz-", text[i])
		}
		cost += characterCost(sign, character)
	}
	return cost, len(text) <= len(l)
}

// wordsBy returns the words of a lexicon.
func wordsBy(words []string) []string {
	var l []string
	for _, w := range words {
		if !slices.Contains(l, w) {
			l = append(l, w)
		}
	}
	sort.Strings(l)
	return l
}

// nearBy returns the words with the least costs.
func nearBy(words []string, l line, most int) []lexicon.Guess {
	var all []lexicon.Guess
	for _, w := range wordsBy(words) {
		if cost, ok := costBy(l, w); ok {
			all = append(all, lexicon.Guess{Word: w, Cost: cost})
		}
	}
	sort.Slice(all, func(i, j int) bool {
		return all[i].Cost < all[j].Cost || all[i].Cost == all[j].Cost && all[i].Word < all[j].Word
	})
	var out []lexicon.Guess
	for i, g := range all {
		if i < most {
			out = append(out, g)
		}
	}
	return out
}

// speltBy reports whether texts are spelt: joined and divided they are words.
func speltBy(words, texts []string) bool {
	all := ""
	for _, text := range texts {
		if text == "" {
			continue
		}
		if body := strings.TrimSuffix(text, "-"); body == "" || strings.Trim(body, "abcdefghijklmnopqrstuvwxyz") != "" {
			return false
		}
		all += text + " "
	}
	for _, w := range strings.Fields(strings.ReplaceAll(all, "- ", "")) {
		if !slices.Contains(words, w) {
			return false
		}
	}
	return !strings.HasSuffix(all, "- ")
}

// textsBy returns all texts of a and b that may stand in a line, in increasing order.
func textsBy(signs int) []string {
	l, bodies := []string{""}, []string{""}
	for range signs {
		var longer []string
		for _, b := range bodies {
			longer = append(longer, b+"a", b+"b")
		}
		bodies = longer
		for _, b := range bodies {
			l = append(l, b)
			if len(b) < signs {
				l = append(l, b+"-")
			}
		}
	}
	sort.Strings(l)
	return l
}

// spellBy goes through all lists of texts of a and b in lexicographic order.
func spellBy(words []string, lines []line) ([]string, int) {
	var best []string
	least := -1
	var try func(texts []string, cost int)
	try = func(texts []string, cost int) {
		n := len(texts)
		if n == len(lines) {
			if (least < 0 || cost < least) && speltBy(words, texts) {
				best, least = slices.Clone(texts), cost
			}
			return
		}
		for _, text := range textsBy(len(lines[n])) {
			more, _ := costBy(lines[n], text)
			try(append(slices.Clone(texts), text), cost+more)
		}
	}
	try(nil, 0)
	return best, least
}

// distanceBy tries each way to make b of a.
func distanceBy(a, b string) int {
	if a == "" || b == "" {
		return len(a) + len(b)
	}
	change := distanceBy(a[1:], b[1:])
	if a[0] != b[0] {
		change++
	}
	return min(change, 1+distanceBy(a[1:], b), 1+distanceBy(a, b[1:]))
}

// fullBy returns the full stack of a right one.
func fullBy(l []lexicon.Figure) []lexicon.Figure {
	out := slices.Clone(l)
	add := func(numbers ...int) []lexicon.Figure {
		for _, n := range numbers {
			out = append(out, lexicon.Figure{Number: n})
		}
		sort.Slice(out, func(i, j int) bool { return out[i].Number > out[j].Number })
		return out
	}
	has := func(numbers ...int) bool {
		for i, n := range numbers {
			if len(l) != len(numbers) || l[i].Number != n {
				return false
			}
		}
		return true
	}
	switch {
	case len(l) == 0:
		return add(5, 3)
	case has(6), has(5), has(6, 5):
		return add(3)
	case has(7), has(9):
		return add(5, 3)
	case has(4, 3), has(4, 2):
		return add(6)
	case has(2):
		return add(6, 4)
	case has(4), has(3):
		return add(5)
	}
	return out
}

// stacks returns all right stacks.
func stacks() [][]lexicon.Figure {
	l := [][]lexicon.Figure{nil}
	for i := 0; i < len(l); i++ {
		top := 10
		if n := len(l[i]); n == 4 {
			continue
		} else if n > 0 {
			top = l[i][n-1].Number
		}
		for number := 2; number < top; number++ {
			for alter := -1; alter <= 2; alter++ {
				l = append(l, append(slices.Clone(l[i]), lexicon.Figure{Number: number, Alter: alter}))
			}
		}
	}
	return l
}

// showBy returns the text of a right stack.
func showBy(l []lexicon.Figure) string {
	s := ""
	for i, f := range l {
		if i > 0 {
			s += " "
		}
		s += "0123456789"[f.Number:][:1] + map[int]string{-1: "b", 0: "", 1: "#", 2: "n"}[f.Alter]
	}
	return s
}
