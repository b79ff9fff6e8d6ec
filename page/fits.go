package page

import (
	"iter"

	"custos/api"
	"custos/score"
	"custos/tone"
)

// Steps of the staff that notes may have: all, those of the first of two voices, and those of the second one.
const (
	lowest      = -4
	lowestFirst = 5
	highestLast = 3
	highest     = 12
)

const (
	leastDistance = 2 // of two notes of an event
	maxColumns    = 20
)

// rule is an error, and what looks for the first spot at which it applies to a score that is right.
type rule struct {
	errno api.Errno
	first func(s api.Score) (score.Spot, bool)
}

// Fits reports whether a score fits on a page.
func Fits(s api.Score) (score.Spot, api.Errno) {
	if at, e := score.Check(s); e != api.OK {
		return at, e
	}
	for _, r := range rules() {
		if at, found := r.first(s); found {
			return at, r.errno
		}
	}
	return score.Spot{}, api.OK
}

// rules returns the rules in their order. Each one may rely on those before it.
func rules() [5]rule {
	return [5]rule{
		{api.ErrRange, firstEvent(leavesStaff)},
		{api.ErrClose, firstEvent(tooClose)},
		{api.ErrVoices, firstEvent(leavesVoice)},
		{api.ErrWide, firstWide},
		{api.ErrLong, tooLong},
	}
}

// firstEvent returns what looks for the first event of which something is wrong.
func firstEvent(wrong func(s api.Score, at score.Spot) bool) func(s api.Score) (score.Spot, bool) {
	return func(s api.Score) (score.Spot, bool) {
		for at := range spots(s) {
			if wrong(s, at) {
				return at, true
			}
		}
		return score.Spot{}, false
	}
}

// spots yields the spots of all events.
func spots(s api.Score) iter.Seq[score.Spot] {
	return func(yield func(score.Spot) bool) {
		for p, part := range s.Parts {
			for m, measure := range part.Measures {
				for v, voice := range measure.Voices {
					for e := range voice {
						if !yield(score.Spot{Part: p, Measure: m, Voice: v, Event: e}) {
							return
						}
					}
				}
			}
		}
	}
}

// eventAt returns the event of a spot.
func eventAt(s api.Score, at score.Spot) api.Event {
	return s.Parts[at.Part].Measures[at.Measure].Voices[at.Voice][at.Event]
}

func leavesStaff(s api.Score, at score.Spot) bool {
	return outside(s, at, lowest, highest)
}

func tooClose(s api.Score, at score.Spot) bool {
	notes := eventAt(s, at).Notes
	for i := 1; i < len(notes); i++ {
		// Steps of notes increase, and have the distances of their staff steps.
		if notes[i].Pitch.Step-notes[i-1].Pitch.Step < leastDistance {
			return true
		}
	}
	return false
}

func leavesVoice(s api.Score, at score.Spot) bool {
	if len(s.Parts[at.Part].Measures[at.Measure].Voices) == 1 {
		return false
	}
	least, most := lowestFirst, highest
	if at.Voice > 0 {
		least, most = lowest, highestLast
	}
	return eventAt(s, at).Value == api.Whole || outside(s, at, least, most)
}

func firstWide(s api.Score) (score.Spot, bool) {
	for m := range s.Bars {
		if len(columns(s, m)) > maxColumns {
			return score.Spot{Measure: m}, true
		}
	}
	return score.Spot{}, false
}

func tooLong(s api.Score) (score.Spot, bool) {
	return score.Spot{}, len(layout(s))*len(s.Parts) > api.MaxStrips
}

// outside reports whether a note of the event at a spot has a staff step that is not from least to most.
func outside(s api.Score, at score.Spot, least, most int) bool {
	for _, n := range eventAt(s, at).Notes {
		step, _ := tone.Staff(s.Parts[at.Part].Clef, n.Pitch)
		if !within(step, least, most) {
			return true
		}
	}
	return false
}
