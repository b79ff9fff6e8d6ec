package vote

import (
	"slices"

	"custos/api"
	"custos/score"
)

const maxScores = 9

// Middle returns the score that is closest to all.
func Middle(l []api.Score) (int, []int, api.Errno) {
	if e := noVoters(l); e != api.OK {
		return 0, nil, e
	}
	i, sums := middle(mapped(l, sheets))
	return i, sums, api.OK
}

// Vote returns what most scores have.
func Vote(l []api.Score) (api.Score, [][]int, api.Errno) {
	if e := noVoters(l); e != api.OK {
		return api.Score{}, nil, e
	}
	out := api.Score{Key: l[0].Key, Meter: l[0].Meter}
	for _, p := range l[0].Parts {
		out.Parts = append(out.Parts, api.Part{Clef: p.Clef})
	}
	var agree [][]int
	for _, all := range present(voters(mapped(l, sheets)), len(l)) {
		some := counting(all)
		c := elected(some)
		out.Bars, out.Free = append(out.Bars, c.Bar), append(out.Free, c.Free)
		for p, m := range c.Measures {
			out.Parts[p].Measures = append(out.Parts[p].Measures, m)
		}
		agree = append(agree, agreeing(some, c))
	}
	return score.Copy(out), agree, api.OK
}

// noVoters returns the error of scores that cannot vote.
func noVoters(l []api.Score) api.Errno {
	if len(l) < 1 || len(l) > maxScores {
		return api.ErrArg
	}
	return unlike(l...)
}

// middle returns the score whose costs to all scores are least, and the sums of these costs for all scores.
func middle(l [][]sheet) (int, []int) {
	sums := make([]int, len(l))
	for i, a := range l {
		for j, b := range l[:i] {
			n := last(ofSheets(a, b).table()) // the same in both directions
			sums[i] += n
			sums[j] += n
		}
	}
	return slices.Index(sums, slices.Min(sums)), sums
}

// voters returns the voters of each column of the middle score, in the order of the scores.
func voters(l [][]sheet) [][]Column {
	m, _ := middle(l)
	out := make([][]Column, len(l[m]))
	for _, s := range l {
		for _, p := range ofSheets(l[m], s).best().Pairs {
			if p.A != none && p.B != none {
				out[p.A] = append(out[p.A], s[p.B].Column)
			}
		}
	}
	return out
}

// present returns the voters of those columns that more than half of the scores have, or of all if there are none.
func present(l [][]Column, scores int) [][]Column {
	few := func(v []Column) bool { return 2*len(v) <= scores }
	if !slices.ContainsFunc(l, func(v []Column) bool { return !few(v) }) {
		return l
	}
	return slices.DeleteFunc(l, few)
}

// counting returns those voters of a column that count: the ones with the Free that most have.
func counting(l []Column) []Column {
	sameFree := func(a, b Column) bool { return a.Free == b.Free }
	first := most(l, sameFree)
	return slices.DeleteFunc(l, func(c Column) bool { return !sameFree(c, first) })
}

// elected returns what most of the voters that count have.
func elected(l []Column) Column {
	out := most(l, func(a, b Column) bool { return same(a.Measures, b.Measures) })
	out.Bar = most(l, func(a, b Column) bool { return a.Bar == b.Bar }).Bar
	if out.Free {
		// The lengths of free measures of different voters need not agree.
		return out
	}
	out.Measures = slices.Clone(out.Measures)
	for p := range out.Measures {
		out.Measures[p] = most(l, samePart(p)).Measures[p]
	}
	return out
}

// agreeing returns how many of the voters that count agree with each part of what was elected.
func agreeing(l []Column, elected Column) []int {
	n := make([]int, len(elected.Measures))
	for p := range n {
		n[p] = count(l, elected, samePart(p))
	}
	return n
}

// most returns the first element of a list that is the same as the most elements.
func most[T any](l []T, same func(a, b T) bool) T {
	var best T
	votes := 0
	for _, x := range l {
		if n := count(l, x, same); n > votes {
			best, votes = x, n
		}
	}
	return best
}

// count returns how many elements of a list are the same as x.
func count[T any](l []T, x T, same func(a, b T) bool) int {
	n := 0
	for _, y := range l {
		if same(x, y) {
			n++
		}
	}
	return n
}

// samePart returns what compares the measures of two columns in a part.
func samePart(p int) func(a, b Column) bool {
	return func(a, b Column) bool { return same(a.Measures[p:p+1], b.Measures[p:p+1]) }
}

// same compares two lists of measures.
func same(a, b []api.Measure) bool {
	return score.Same(ofMeasures(a), ofMeasures(b))
}

// ofMeasures returns a score that has nothing but some measures.
func ofMeasures(l []api.Measure) api.Score {
	return api.Score{Parts: []api.Part{{Measures: l}}}
}
