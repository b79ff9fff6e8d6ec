package lexicon

import (
	"slices"
	"strconv"
	"strings"

	"custos/api"
)

// Limits of figures and of stacks.
const (
	maxFigures  = 4
	leastNumber = 2
	mostNumber  = 9
	leastAlter  = -1
	mostAlter   = 2
)

// Figure is a figure of a figured bass.
type Figure struct{ Number, Alter int }

// Full returns the full stack of figures.
func Full(l []Figure) ([]Figure, api.Errno) {
	if !isStack(l) {
		return nil, api.ErrForm
	}
	var out []Figure
	for _, digit := range filled(digits(l)) {
		f := Figure{Number: int(digit - '0')}
		if i := slices.IndexFunc(l, func(g Figure) bool { return g.Number == f.Number }); i >= 0 {
			f = l[i]
		}
		out = append(out, f)
	}
	return out, api.OK
}

// filled returns the Numbers of a full stack, as digits.
func filled(numbers string) string {
	short := [11][2]string{{"", "53"}, {"6", "63"}, {"7", "753"}, {"65", "653"}, {"43", "643"}, {"2", "642"}, {"42", "642"}, {"4", "54"}, {"5", "53"}, {"3", "53"}, {"9", "953"}}
	for _, s := range short {
		if s[0] == numbers {
			return s[1]
		}
	}
	return numbers
}

// digits returns the Numbers of a right stack.
func digits(l []Figure) string {
	s := ""
	for _, f := range l {
		s += strconv.Itoa(f.Number)
	}
	return s
}

// Show returns the text of figures.
func Show(l []Figure) (string, api.Errno) {
	if !isStack(l) {
		return "", api.ErrForm
	}
	var words []string
	for _, f := range l {
		words = append(words, strconv.Itoa(f.Number)+marks()[f.Alter-leastAlter])
	}
	return strings.Join(words, " "), api.OK
}

// Read returns the figures of a text.
func Read(s string) ([]Figure, api.Errno) {
	if s == "" {
		return nil, api.OK
	}
	var l []Figure
	for _, word := range strings.SplitN(s, " ", maxFigures+1) {
		l = append(l, figure(word))
	}
	if !isStack(l) {
		return nil, api.ErrForm
	}
	return l, api.OK
}

// figure returns the figure of a word. That of a wrong word is in no right stack.
func figure(word string) Figure {
	if word == "" {
		return Figure{}
	}
	known := marks()
	return Figure{Number: int(word[0]) - '0', Alter: slices.Index(known[:], word[1:]) + leastAlter}
}

// marks returns the text of each Alter, from the least one on.
func marks() [4]string {
	return [4]string{"b", "", "#", "n"}
}

// isStack reports whether a stack is right.
func isStack(l []Figure) bool {
	for i, f := range l {
		if !within(f.Number, leastNumber, mostNumber) || !within(f.Alter, leastAlter, mostAlter) || i > 0 && l[i-1].Number <= f.Number {
			return false
		}
	}
	return len(l) <= maxFigures
}
