package vote_test

import (
	"custos/api"
	"custos/score"
	"custos/vote"
)

// The functions of this file say what the chapter says, in other words than the program: they try everything.

// tieOf returns 0, if an event has not a pitch, 1, if it has it, and 2, if it has it tied.
func tieOf(e api.Event, p api.Pitch) int {
	for _, n := range e.Notes {
		if n.Pitch == p && n.Tie {
			return 2
		} else if n.Pitch == p {
			return 1
		}
	}
	return 0
}

// distanceBy returns the distance of two events.
func distanceBy(a, b api.Event) int {
	sum := 0
	if a.Value != b.Value || a.Dot != b.Dot || a.Triple != b.Triple {
		sum++
	}
	if a.Beam != b.Beam {
		sum++
	}
	if a.Text != b.Text {
		sum++
	}
	pitches := map[api.Pitch]bool{}
	for _, e := range []api.Event{a, b} {
		for _, n := range e.Notes {
			pitches[n.Pitch] = true
		}
	}
	for p := range pitches {
		if tieOf(a, p) != tieOf(b, p) {
			sum++
		}
	}
	return sum
}

// weightBy returns the weight of events.
func weightBy(l ...api.Event) int {
	sum := 0
	for _, e := range l {
		sum += 2 + len(e.Notes)
	}
	return sum
}

// voicesBy tries each way to go on.
func voicesBy(a, b []api.Event) int {
	if len(a) == 0 || len(b) == 0 {
		return weightBy(a...) + weightBy(b...)
	}
	return min(distanceBy(a[0], b[0])+voicesBy(a[1:], b[1:]), weightBy(a[0])+voicesBy(a[1:], b), weightBy(b[0])+voicesBy(a, b[1:]))
}

// voiceOf returns a voice of a column, or none.
func voiceOf(c vote.Column, part, number int) []api.Event {
	if l := c.Measures[part].Voices; number < len(l) {
		return l[number]
	}
	return nil
}

// apartBy returns the distance of two columns.
func apartBy(a, b vote.Column) int {
	sum := 0
	if a.Bar != b.Bar {
		sum++
	}
	if a.Free != b.Free {
		sum++
	}
	for p := range a.Measures {
		sum += voicesBy(voiceOf(a, p, 0), voiceOf(b, p, 0)) + voicesBy(voiceOf(a, p, 1), voiceOf(b, p, 1))
	}
	return sum
}

// heavyBy returns the weight of a column.
func heavyBy(c vote.Column) int {
	sum := 2
	for _, m := range c.Measures {
		for _, l := range m.Voices {
			sum += weightBy(l...)
		}
	}
	return sum
}

// columnBy returns a column of a score.
func columnBy(s api.Score, i int) vote.Column {
	c := vote.Column{Bar: s.Bars[i], Free: s.Free[i]}
	for _, p := range s.Parts {
		c.Measures = append(c.Measures, p.Measures[i])
	}
	return c
}

// ways returns all alignments of the first columns of two scores; what is preferred comes first.
func ways(a, b int) [][]vote.Pair {
	if a == 0 && b == 0 {
		return [][]vote.Pair{nil}
	}
	var l [][]vote.Pair
	add := func(a, b int, p vote.Pair) {
		for _, w := range ways(a, b) {
			l = append(l, append(w[:len(w):len(w)], p))
		}
	}
	if a > 0 && b > 0 {
		add(a-1, b-1, vote.Pair{A: a - 1, B: b - 1})
	}
	if a > 0 {
		add(a-1, b, vote.Pair{A: a - 1, B: -1})
	}
	if b > 0 {
		add(a, b-1, vote.Pair{A: -1, B: b - 1})
	}
	return l
}

// costs has the distances of the columns of two scores, and their weights.
type costs struct {
	apart          [][]int
	heavyA, heavyB []int
}

// costsBy returns the costs of two scores.
func costsBy(a, b api.Score) costs {
	var c costs
	for i := range a.Bars {
		c.heavyA = append(c.heavyA, heavyBy(columnBy(a, i)))
		var row []int
		for j := range b.Bars {
			row = append(row, apartBy(columnBy(a, i), columnBy(b, j)))
		}
		c.apart = append(c.apart, row)
	}
	for j := range b.Bars {
		c.heavyB = append(c.heavyB, heavyBy(columnBy(b, j)))
	}
	return c
}

// of returns the cost of an alignment.
func (c costs) of(l []vote.Pair) int {
	sum := 0
	for _, p := range l {
		switch {
		case p.A < 0:
			sum += c.heavyB[p.B]
		case p.B < 0:
			sum += c.heavyA[p.A]
		default:
			sum += c.apart[p.A][p.B]
		}
	}
	return sum
}

// best returns the first one of the alignments with the least cost of the first columns, and this cost.
func (c costs) best(a, b int) ([]vote.Pair, int) {
	var best []vote.Pair
	least := -1
	for _, l := range ways(a, b) {
		if n := c.of(l); least < 0 || n < least {
			best, least = l, n
		}
	}
	return best, least
}

// alignBy tries all alignments, of all first columns.
func alignBy(a, b api.Score) vote.Alignment {
	c := costsBy(a, b)
	var x vote.Alignment
	for i := range len(a.Bars) + 1 {
		var row []int
		for j := range len(b.Bars) + 1 {
			_, n := c.best(i, j)
			row = append(row, n)
		}
		x.Proof = append(x.Proof, row)
	}
	x.Pairs, x.Cost = c.best(len(a.Bars), len(b.Bars))
	return x
}

// proofBy reports whether a table, whose numbers are not too great to be added, is a proof.
func (c costs) proofBy(t [][]int) bool {
	if len(t) != len(c.heavyA)+1 {
		return false
	}
	for _, row := range t {
		if len(row) != len(c.heavyB)+1 {
			return false
		}
	}
	for i, row := range t {
		for j, n := range row {
			if i > 0 && n > t[i-1][j]+c.heavyA[i-1] || j > 0 && n > row[j-1]+c.heavyB[j-1] || i > 0 && j > 0 && n > t[i-1][j-1]+c.apart[i-1][j-1] {
				return false
			}
		}
	}
	return t[0][0] == 0
}

// pairsBy reports whether pairs are an alignment.
func pairsBy(a, b int, l []vote.Pair) bool {
	var as, bs []int
	for _, p := range l {
		if p.A == -1 && p.B == -1 {
			return false
		}
		if p.A != -1 {
			as = append(as, p.A)
		}
		if p.B != -1 {
			bs = append(bs, p.B)
		}
	}
	for i, n := range as {
		if n != i {
			return false
		}
	}
	for i, n := range bs {
		if n != i {
			return false
		}
	}
	return len(as) == a && len(bs) == b
}

// verifyBy returns what Verify returns for scores that are comparable.
func verifyBy(a, b api.Score, x vote.Alignment) api.Errno {
	c := costsBy(a, b)
	switch {
	case !pairsBy(len(a.Bars), len(b.Bars), x.Pairs):
		return api.ErrAlign
	case !c.proofBy(x.Proof):
		return api.ErrArg
	case c.of(x.Pairs) != x.Cost || x.Proof[len(a.Bars)][len(b.Bars)] != x.Cost:
		return api.ErrFalse
	}
	return api.OK
}

// middleBy returns the sums of all costs, and where the least one is.
func middleBy(l []api.Score) (int, []int) {
	best := 0
	var sums []int
	for i, a := range l {
		sum := 0
		for _, b := range l {
			_, n := costsBy(a, b).best(len(a.Bars), len(b.Bars))
			sum += n
		}
		sums = append(sums, sum)
		if sum < sums[best] {
			best = i
		}
	}
	return best, sums
}

// winner returns what stands most often in a list of texts: where it stands first.
func winner(l []string) int {
	votes, first := map[string]int{}, map[string]int{}
	for i, s := range l {
		if votes[s]++; votes[s] == 1 {
			first[s] = i
		}
	}
	best := l[0]
	for s, n := range votes {
		if n > votes[best] || n == votes[best] && first[s] < first[best] {
			best = s
		}
	}
	return first[best]
}

// winnerOf is winner for the texts of what columns have.
func winnerOf(l []vote.Column, of func(c vote.Column) any) vote.Column {
	var texts []string
	for _, c := range l {
		texts = append(texts, shown(of(c)))
	}
	return l[winner(texts)]
}

// electBy returns what the voters of a column elect, and how many agree.
func electBy(l []vote.Column) (vote.Column, []int) {
	out := vote.Column{Free: winnerOf(l, func(c vote.Column) any { return c.Free }).Free}
	var some []vote.Column
	for _, c := range l {
		if c.Free == out.Free {
			some = append(some, c)
		}
	}
	out.Bar = winnerOf(some, func(c vote.Column) any { return c.Bar }).Bar
	var agree []int
	for p := range l[0].Measures {
		m := winnerOf(some, func(c vote.Column) any { return c.Measures[p] }).Measures[p]
		if out.Free {
			m = winnerOf(some, func(c vote.Column) any { return c.Measures }).Measures[p]
		}
		n := 0
		for _, c := range some {
			if shown(c.Measures[p]) == shown(m) {
				n++
			}
		}
		out.Measures, agree = append(out.Measures, m), append(agree, n)
	}
	return out, agree
}

// voteBy returns what Vote returns for scores that are comparable.
func voteBy(l []api.Score) (api.Score, [][]int) {
	middle, _ := middleBy(l)
	a := l[middle]
	voters := make([][]vote.Column, len(a.Bars))
	for _, b := range l {
		pairs, _ := costsBy(a, b).best(len(a.Bars), len(b.Bars))
		for _, p := range pairs {
			if p.A >= 0 && p.B >= 0 {
				voters[p.A] = append(voters[p.A], columnBy(b, p.B))
			}
		}
	}
	all := true
	for _, v := range voters {
		all = all && 2*len(v) <= len(l)
	}
	out := score.Copy(a)
	out.Bars, out.Free = nil, nil
	for p := range out.Parts {
		out.Parts[p].Measures = nil
	}
	var agree [][]int
	for _, v := range voters {
		if 2*len(v) <= len(l) && !all {
			continue
		}
		c, n := electBy(v)
		out.Bars, out.Free, agree = append(out.Bars, c.Bar), append(out.Free, c.Free), append(agree, n)
		for p, m := range c.Measures {
			out.Parts[p].Measures = append(out.Parts[p].Measures, m)
		}
	}
	return out, agree
}
