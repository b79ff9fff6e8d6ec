package vote

import "slices"

// none stands in a pair for the column that is not there.
const none = -1

// aligner aligns two lists.
type aligner[T any] struct {
	a, b     []T
	weight   func(x T) int
	distance func(x, y T) int
}

// best returns the alignment that is preferred among those of the least cost.
func (x aligner[T]) best() Alignment {
	t := x.table()
	return Alignment{Pairs: x.way(t), Cost: last(t), Proof: t}
}

// table returns the least costs of all beginnings of both lists.
func (x aligner[T]) table() [][]int {
	t := make([][]int, len(x.a)+1)
	for i := range t {
		t[i] = make([]int, len(x.b)+1)
		for j := range t[i] {
			t[i][j] = x.bound(t, i, j)
		}
	}
	return t
}

// bound returns the most that a number of a table may be because of those before it.
func (x aligner[T]) bound(t [][]int, i, j int) int {
	switch {
	case i == 0 && j == 0:
		return 0
	case i == 0:
		return t[i][j-1] + x.weight(x.b[j-1])
	case j == 0:
		return t[i-1][j] + x.weight(x.a[i-1])
	}
	n := min(t[i][j-1]+x.weight(x.b[j-1]), t[i-1][j]+x.weight(x.a[i-1]))
	// Distances cost the most time, and in most places one is not needed to see that it is too great.
	if t[i-1][j-1] < n {
		n = min(n, t[i-1][j-1]+x.distance(x.a[i-1], x.b[j-1]))
	}
	return n
}

// way returns the pairs that lead to the last number of a table.
func (x aligner[T]) way(t [][]int) []Pair {
	i, j := len(x.a), len(x.b)
	l := make([]Pair, 0, i+j)
	for i > 0 || j > 0 {
		p := x.step(t, i, j)
		l = append(l, p)
		if p.A != none {
			i--
		}
		if p.B != none {
			j--
		}
	}
	slices.Reverse(l)
	return l
}

// step returns the pair that is preferred among those that lead to a number of a table.
func (x aligner[T]) step(t [][]int, i, j int) Pair {
	keep, leave := Pair{i - 1, j - 1}, Pair{i - 1, none}
	switch {
	case i > 0 && j > 0 && t[i][j] == t[i-1][j-1]+x.price(keep):
		return keep
	case i > 0 && t[i][j] == t[i-1][j]+x.price(leave):
		return leave
	}
	return Pair{none, j - 1}
}

// price returns the cost of a pair.
func (x aligner[T]) price(p Pair) int {
	switch {
	case p.B == none:
		return x.weight(x.a[p.A])
	case p.A == none:
		return x.weight(x.b[p.B])
	}
	return x.distance(x.a[p.A], x.b[p.B])
}

// cost returns the cost of an alignment.
func (x aligner[T]) cost(l []Pair) int {
	n := 0
	for _, p := range l {
		n += x.price(p)
	}
	return n
}

// hasPairs reports whether pairs are an alignment.
func (x aligner[T]) hasPairs(l []Pair) bool {
	i, j := 0, 0
	for _, p := range l {
		switch p {
		case Pair{i, j}:
			i, j = i+1, j+1
		case Pair{i, none}:
			i++
		case Pair{none, j}:
			j++
		default:
			return false
		}
	}
	return i == len(x.a) && j == len(x.b)
}

// hasProof reports whether a table is a proof.
func (x aligner[T]) hasProof(t [][]int) bool {
	if len(t) != len(x.a)+1 {
		return false
	}
	for _, row := range t {
		if len(row) != len(x.b)+1 {
			return false
		}
	}
	if t[0][0] != 0 {
		return false
	}
	// Numbers that have passed are not great, and no sum of them is.
	for i, row := range t {
		for j, n := range row {
			if n > x.bound(t, i, j) {
				return false
			}
		}
	}
	return true
}

// last returns the last number of a table.
func last(t [][]int) int {
	row := t[len(t)-1]
	return row[len(row)-1]
}
