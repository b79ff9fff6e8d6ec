package solve_test

import (
	"slices"
	"sort"

	"custos/api"
	"custos/cell"
	"custos/grammar"
	"custos/solve"
)

// place is a feature with its staff and its column.
type place struct {
	api.Feature
	staff, column int
}

// placesBy returns the features of a case in order.
func placesBy(c solve.Case) []place {
	var l []place
	for s := range c.Cells {
		for column := range c.Cells[s] {
			for i := range c.Cells[s][column] {
				l = append(l, place{c.Cells[s][column][i], s, column})
			}
		}
	}
	return l
}

// costBy returns the cost of a choice.
func costBy(c solve.Case, w solve.Weights, choice []int) int {
	cost := 0
	for i, p := range placesBy(c) {
		for what := api.What(1); what <= 16; what++ {
			if p.Place.What == what {
				cost += p.Options[choice[i]].Miss * w[what]
			}
		}
	}
	return cost
}

// choicesBy returns all choices in lexicographic order.
func choicesBy(c solve.Case) [][]int {
	l := [][]int{nil}
	for _, p := range placesBy(c) {
		var longer [][]int
		for _, choice := range l {
			for i := range p.Options {
				longer = append(longer, append(slices.Clone(choice), i))
			}
		}
		l = longer
	}
	return l
}

// readBy returns the measures of a choice, or its fault.
func readBy(c solve.Case, choice []int) ([]api.Measure, api.Errno) {
	n := 0
	var cells [][]api.Cell
	for _, s := range c.Cells {
		var l []api.Cell
		for _, features := range s {
			one, e := cell.Make(api.EventCell, features, choice[n:n+len(features)])
			if e != api.OK {
				return nil, e
			}
			l = append(l, one)
			n += len(features)
		}
		cells = append(cells, l)
	}
	m, _, e := grammar.Read(c.Frame, cells)
	return m, e
}

// bestBy goes through all choices, sorted.
func bestBy(c solve.Case, w solve.Weights, k int) solve.Result {
	l := choicesBy(c)
	costs := map[*int]int{}
	if len(l[0]) > 0 {
		for _, choice := range l {
			costs[&choice[0]] = costBy(c, w, choice)
		}
		sort.SliceStable(l, func(i, j int) bool { return costs[&l[i][0]] < costs[&l[j][0]] })
	}
	var r solve.Result
	for _, choice := range l {
		m, fault := readBy(c, choice)
		if fault != api.OK {
			r.Rejected = append(r.Rejected, solve.Rejected{Choice: choice, Fault: fault})
			continue
		}
		r.Solutions = append(r.Solutions, solve.Solution{Choice: choice, Cost: costBy(c, w, choice), Measures: m})
		if len(r.Solutions) == max(k, 1) {
			break
		}
	}
	return r
}

// trimBy returns a case with its better options.
func trimBy(c solve.Case, slack, most int) solve.Case {
	out := copied(c)
	for _, s := range out.Cells {
		for _, l := range s {
			for i := range l {
				f := &l[i]
				best := f.Options[0]
				for _, o := range f.Options {
					if o.Miss < best.Miss {
						best = o
					}
				}
				var kept []api.Option
				for _, o := range f.Options {
					if (o.Miss == best.Miss || slack > 0 && o.Miss-best.Miss <= slack) && (len(kept) == 0 || len(kept) < most) {
						kept = append(kept, o)
					}
				}
				f.Options = kept
			}
		}
	}
	return out
}

// differBy returns the places at which solutions differ.
func differBy(c solve.Case, l []solve.Solution) []api.Place {
	var out []api.Place
	for i, p := range placesBy(c) {
		seen := map[int]bool{}
		for _, s := range l {
			seen[s.Choice[i]] = true
		}
		if len(seen) > 1 {
			out = append(out, api.Place{System: p.Place.System, Staff: p.staff, Slot: p.column, What: p.Place.What, Index: p.Place.Index})
		}
	}
	return out
}
