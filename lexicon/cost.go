package lexicon

import "custos/api"

// Characters that are no letters, and how many characters there are.
const (
	blank      = 0
	hyphen     = 27
	characters = 28
)

// sheet has what each character costs at each sign of a line.
type sheet struct {
	signs  [][characters]int
	blanks []int // the cost of blanks at a sign and all behind it
}

// Letter returns the character of a byte.
func Letter(c byte) int {
	switch {
	case isLetter(c):
		return int(c-'a') + 1
	case c == '-':
		return hyphen
	}
	return blank
}

// Cost returns the cost of a text.
func Cost(line [][]api.Option, text string) (int, api.Errno) {
	s, e := newSheet(line)
	if e != api.OK {
		return 0, e
	}
	if len(text) > len(line) || !allOf([]byte(text), func(c byte) bool { return Letter(c) != blank }) {
		return 0, api.ErrText
	}
	sum := s.blanks[len(text)]
	for i := range len(text) {
		sum += s.signs[i][Letter(text[i])]
	}
	return sum, api.OK
}

// newSheet returns the costs of a line of signs.
func newSheet(line [][]api.Option) (sheet, api.Errno) {
	if len(line) > MaxSigns {
		return sheet{}, api.ErrMany
	}
	s := sheet{signs: make([][characters]int, len(line)), blanks: make([]int, len(line)+1)}
	for i, sign := range line {
		if !isSign(sign) {
			return sheet{}, api.ErrArg
		}
		s.signs[i] = costs(sign)
	}
	for i := len(line) - 1; i >= 0; i-- {
		s.blanks[i] = s.blanks[i+1] + s.signs[i][blank]
	}
	return s, api.OK
}

// isSign reports whether options are those of a sign.
func isSign(l []api.Option) bool {
	var seen [characters]bool
	for _, o := range l {
		if !within(o.Miss, 0, Never) || !within(o.Value, blank, hyphen) || seen[o.Value] {
			return false
		}
		seen[o.Value] = true
	}
	return true
}

// costs returns what each character costs at a sign.
func costs(sign []api.Option) [characters]int {
	var l [characters]int
	for i := range l {
		l[i] = Never
	}
	for _, o := range sign {
		l[o.Value] = o.Miss
	}
	return l
}

// Distance returns how many bytes must be changed to make one string of another.
func Distance(a, b string) int {
	// The distances of the bytes of a so far from each beginning of b.
	row := make([]int, len(b)+1)
	for j := range row {
		row[j] = j
	}
	for i := range len(a) {
		before := row[0]
		row[0]++
		for j := range len(b) {
			n := before
			if a[i] != b[j] {
				n = 1 + min(before, row[j], row[j+1])
			}
			before, row[j+1] = row[j+1], n
		}
	}
	return row[len(b)]
}
