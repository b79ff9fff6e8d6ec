package score

import (
	"iter"

	"custos/api"
)

// whole yields the spot that stands for a whole score.
func whole(api.Score) iter.Seq[Spot] {
	return func(yield func(Spot) bool) {
		yield(Spot{})
	}
}

// bars yields the spots of the barlines.
func bars(s api.Score) iter.Seq[Spot] {
	return func(yield func(Spot) bool) {
		for m := range s.Bars {
			if !yield(Spot{Measure: m}) {
				return
			}
		}
	}
}

// parts yields the spots of the parts.
func parts(s api.Score) iter.Seq[Spot] {
	return func(yield func(Spot) bool) {
		for p := range s.Parts {
			if !yield(Spot{Part: p}) {
				return
			}
		}
	}
}

// measures yields the spots of the measures, part by part.
func measures(s api.Score) iter.Seq[Spot] {
	return func(yield func(Spot) bool) {
		for at := range parts(s) {
			for m := range s.Parts[at.Part].Measures {
				at.Measure = m
				if !yield(at) {
					return
				}
			}
		}
	}
}

// voices yields the spots of the voices, measure by measure.
func voices(s api.Score) iter.Seq[Spot] {
	return func(yield func(Spot) bool) {
		for at := range measures(s) {
			for v := range measureAt(s, at).Voices {
				at.Voice = v
				if !yield(at) {
					return
				}
			}
		}
	}
}

// events yields the spots of the events, voice by voice.
func events(s api.Score) iter.Seq[Spot] {
	return func(yield func(Spot) bool) {
		for at := range voices(s) {
			for e := range voiceAt(s, at) {
				at.Event = e
				if !yield(at) {
					return
				}
			}
		}
	}
}

// measureAt returns the measure of a spot.
func measureAt(s api.Score, at Spot) api.Measure {
	return s.Parts[at.Part].Measures[at.Measure]
}

// voiceAt returns the voice of a spot.
func voiceAt(s api.Score, at Spot) []api.Event {
	return measureAt(s, at).Voices[at.Voice]
}

// eventAt returns the event of a spot.
func eventAt(s api.Score, at Spot) api.Event {
	return voiceAt(s, at)[at.Event]
}

// after returns the spot of the event that ties lead to from an event, and whether there is one.
func after(s api.Score, at Spot) (Spot, bool) {
	at.Event++
	if at.Event < len(voiceAt(s, at)) {
		return at, true
	}
	at.Measure, at.Event = at.Measure+1, 0
	if at.Measure == len(s.Bars) || at.Voice >= len(measureAt(s, at).Voices) {
		return Spot{}, false
	}
	return at, true
}
