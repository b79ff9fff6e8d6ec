package page

import (
	"slices"

	"custos/api"
	"custos/score"
	"custos/tone"
)

// Slot is a slot of a system.
type Slot struct {
	Kind            api.Kind
	Measure, Column int
}

// System is a row of measures.
type System struct {
	First, Count int
	Slots        []Slot
}

// Columns returns the columns of a measure.
func Columns(s api.Score, measure int) ([]api.Ratio, api.Errno) {
	if _, e := score.Check(s); e != api.OK {
		return nil, e
	}
	if !within(measure, 0, len(s.Bars)-1) {
		return nil, api.ErrArg
	}
	return columns(s, measure), api.OK
}

// Layout returns the systems of a score.
func Layout(s api.Score) ([]System, api.Errno) {
	if _, e := Fits(s); e != api.OK {
		return nil, e
	}
	return layout(s), api.OK
}

// columns returns the columns of a measure of a score that is right.
func columns(s api.Score, measure int) []api.Ratio {
	var l []api.Ratio
	for _, p := range s.Parts {
		for _, voice := range p.Measures[measure].Voices {
			onsets, _, _ := score.Onsets(voice)
			for _, onset := range onsets {
				l = insert(l, onset, compareTimes)
			}
		}
	}
	return l
}

// layout returns the systems of a score that is right. Each of its measures must have room in a system of its own.
func layout(s api.Score) []System {
	l := []System{begin(0)}
	next := 0
filling:
	for {
		last := &l[len(l)-1]
		switch {
		case next == len(s.Bars):
			break filling
		case last.add(next, len(columns(s, next))):
			next++
		default:
			l = append(l, begin(next))
		}
	}
	return l
}

// begin returns a system without measures, which begins with a measure.
func begin(measure int) System {
	return System{First: measure, Slots: []Slot{{Kind: api.ClefCell}, {Kind: api.KeyCell}, {Kind: api.MeterCell}}}
}

// add adds a measure with some columns, if the system has room for it, and reports whether it has.
func (s *System) add(measure, columns int) bool {
	if len(s.Slots)+columns+1 > api.MaxSlots {
		return false
	}
	for c := range columns {
		s.Slots = append(s.Slots, Slot{Kind: api.EventCell, Measure: measure, Column: c})
	}
	s.Slots = append(s.Slots, Slot{Kind: api.BarCell, Measure: measure})
	s.Count++
	return true
}

// compareTimes says which of two times comes first.
func compareTimes(a, b api.Ratio) int {
	c, _ := tone.Cmp(a, b)
	return c
}

// insert puts an element into a sorted list, unless an equal one is there.
func insert[T any](l []T, x T, compare func(a, b T) int) []T {
	i, found := slices.BinarySearchFunc(l, x, compare)
	if found {
		return l
	}
	return slices.Insert(l, i, x)
}
