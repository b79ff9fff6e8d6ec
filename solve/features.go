package solve

import (
	"iter"
	"slices"

	"custos/api"
)

// features yields the features of a case in order, with their numbers. Their places have the staff and the column that they have in the case.
func features(c Case) iter.Seq2[int, api.Feature] {
	return func(yield func(int, api.Feature) bool) {
		n := 0
		for s, staff := range c.Cells {
			for column, l := range staff {
				for _, f := range l {
					f.Place.Staff, f.Place.Slot = s, column
					if !yield(n, f) {
						return
					}
					n++
				}
			}
		}
	}
}

// hasFeature reports whether a case has a feature of which something is so.
func hasFeature(c Case, so func(f api.Feature) bool) bool {
	for _, f := range features(c) {
		if so(f) {
			return true
		}
	}
	return false
}

// isClosed reports whether a feature has no option.
func isClosed(f api.Feature) bool {
	return len(f.Options) == 0
}

// isOutside reports whether a feature has an option with a Miss that is not allowed.
func isOutside(f api.Feature) bool {
	return slices.ContainsFunc(f.Options, func(o api.Option) bool { return !within(o.Miss, 0, maxMiss) })
}

// leastMiss returns the Miss of the best option of a feature.
func leastMiss(f api.Feature) int {
	least := maxMiss
	for _, o := range f.Options {
		least = min(least, o.Miss)
	}
	return least
}

// price returns what an option of a feature adds to the cost of a choice.
func price(f api.Feature, option int, w Weights) int {
	if !within(f.Place.What, api.WClef, api.WText) {
		return 0
	}
	return f.Options[option].Miss * w[f.Place.What]
}

// isRight reports whether weights are what they may be. The first one does not matter.
func isRight(w Weights) bool {
	return !slices.ContainsFunc(w[1:], func(n int) bool { return !within(n, 1, maxWeight) })
}

// checkChoice reports whether a case is valid, and a choice one of its choices.
func checkChoice(c Case, choice []int) api.Errno {
	if e := Check(c); e != api.OK {
		return e
	}
	if !chooses(c, choice) {
		return api.ErrArg
	}
	return api.OK
}

// chooses reports whether a choice has the index of an option for each feature.
func chooses(c Case, choice []int) bool {
	n := 0
	for i, f := range features(c) {
		if i >= len(choice) || !within(choice[i], 0, len(f.Options)-1) {
			return false
		}
		n++
	}
	return n == len(choice)
}

// within reports whether a number is from least to most.
func within[T ~int](n, least, most T) bool {
	return least <= n && n <= most
}
