package score

import (
	"custos/api"
)

// Play returns the order in which measures are played.
func Play(s api.Score) ([]int, api.Errno) {
	if _, e := Check(s); e != api.OK {
		return nil, e
	}
	var order []int
	begin, again := 0, false
	for m := 0; m < len(s.Bars); {
		order = append(order, m)
		if s.Bars[m] == api.Close && !again {
			m, again = begin, true
			continue
		}
		m++
		if repeats(s.Bars[m-1]) {
			begin, again = m, false
		}
	}
	return order, api.OK
}

// Unfold returns a score without repeats.
func Unfold(s api.Score) (api.Score, api.Errno) {
	order, e := Play(s)
	if e != api.OK {
		return api.Score{}, e
	}
	if len(order) > api.MaxBars {
		return api.Score{}, api.ErrMany
	}
	u := api.Score{Key: s.Key, Meter: s.Meter}
	for _, m := range order {
		u.Bars = append(u.Bars, unfolded(s.Bars[m], api.Single))
		u.Free = append(u.Free, s.Free[m])
	}
	u.Bars[len(order)-1] = unfolded(s.Bars[len(s.Bars)-1], api.Final)
	for _, p := range s.Parts {
		part := api.Part{Clef: p.Clef}
		for _, m := range order {
			part.Measures = append(part.Measures, copyMeasure(p.Measures[m]))
		}
		u.Parts = append(u.Parts, part)
	}
	return u, api.OK
}

// unfolded returns a barline, or another one in place of one with a repeat.
func unfolded(b, other api.Bar) api.Bar {
	if repeats(b) {
		return other
	}
	return b
}

// repeats reports whether a repeat begins or ends at a barline.
func repeats(b api.Bar) bool {
	return b == api.Open || b == api.Close
}
