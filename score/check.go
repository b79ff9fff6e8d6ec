package score

import (
	"iter"
	"slices"

	"custos/api"
	"custos/tone"
)

// rule is an error, the spots at which it is looked for, and what finds it there.
type rule struct {
	errno api.Errno
	spots func(s api.Score) iter.Seq[Spot]
	wrong func(s api.Score, at Spot) bool
}

// Check reports whether a score is right.
func Check(s api.Score) (Spot, api.Errno) {
	for _, r := range rules() {
		for at := range r.spots(s) {
			if r.wrong(s, at) {
				return at, r.errno
			}
		}
	}
	return Spot{}, api.OK
}

// rules returns the rules in their order. Each one may rely on those before it.
func rules() []rule {
	return []rule{
		{api.ErrParts, whole, wrongCounts},
		{api.ErrParts, parts, wrongMeasures},
		{api.ErrParts, bars, noBar},
		{api.ErrClef, parts, noClef},
		{api.ErrKey, whole, noKey},
		{api.ErrMeter, whole, noMeter},
		{api.ErrVoices, measures, wrongVoices},
		{api.ErrVoices, voices, wrongEvents},
		{api.ErrValue, events, ofEvent(noValue)},
		{api.ErrChord, events, ofEvent(tooManyNotes)},
		{api.ErrChord, events, ofEvent(notIncreasing)},
		{api.ErrPitch, events, ofEvent(noPitch)},
		{api.ErrBeam, events, ofEvent(noBeam)},
		{api.ErrBeam, events, ofEvent(cannotHaveBeam)},
		{api.ErrBeam, events, leavesGroup},
		{api.ErrTie, events, tiedToNothing},
		{api.ErrText, events, ofEvent(noText)},
		{api.ErrText, events, ofEvent(restWithText)},
		{api.ErrText, events, textOfSecondVoice},
		{api.ErrSum, voices, unlikeMeter},
		{api.ErrSum, voices, unlikeFirstVoice},
	}
}

// ofEvent returns what finds an error of the event at a spot.
func ofEvent(wrong func(e api.Event) bool) func(s api.Score, at Spot) bool {
	return func(s api.Score, at Spot) bool { return wrong(eventAt(s, at)) }
}

func wrongCounts(s api.Score, _ Spot) bool {
	return !within(len(s.Parts), 1, api.MaxParts) || !within(len(s.Bars), 1, api.MaxBars) || len(s.Free) != len(s.Bars)
}

func wrongMeasures(s api.Score, at Spot) bool {
	return len(s.Parts[at.Part].Measures) != len(s.Bars)
}

func noBar(s api.Score, at Spot) bool {
	return !within(s.Bars[at.Measure], api.Single, api.Close)
}

func noClef(s api.Score, at Spot) bool {
	_, e := tone.Base(s.Parts[at.Part].Clef)
	return e != api.OK
}

func noKey(s api.Score, _ Spot) bool {
	_, e := tone.Key(s.Key, tone.Interval{})
	return e != api.OK
}

func noMeter(s api.Score, _ Spot) bool {
	_, e := tone.Bar(s.Meter)
	return e != api.OK
}

func wrongVoices(s api.Score, at Spot) bool {
	return !within(len(measureAt(s, at).Voices), 1, 2)
}

func wrongEvents(s api.Score, at Spot) bool {
	return !within(len(voiceAt(s, at)), 1, MaxEvents)
}

func noValue(e api.Event) bool {
	_, errno := tone.Length(e.Value, e.Dot, e.Triple)
	return errno != api.OK
}

func tooManyNotes(e api.Event) bool {
	return len(e.Notes) > MaxNotes
}

func notIncreasing(e api.Event) bool {
	for i := 1; i < len(e.Notes); i++ {
		if e.Notes[i-1].Pitch.Step >= e.Notes[i].Pitch.Step {
			return true
		}
	}
	return false
}

func noPitch(e api.Event) bool {
	return slices.ContainsFunc(e.Notes, func(n api.Note) bool {
		_, errno := tone.Semitone(n.Pitch)
		return errno != api.OK
	})
}

func noBeam(e api.Event) bool {
	return !within(e.Beam, api.NoBeam, api.BeamEnd)
}

func cannotHaveBeam(e api.Event) bool {
	return e.Beam != api.NoBeam && (isRest(e) || e.Value != api.Eighth && e.Value != api.Sixteenth)
}

// leavesGroup relies on it that all events before this one can stand where they do.
func leavesGroup(s api.Score, at Spot) bool {
	l := voiceAt(s, at)
	e := l[at.Event]
	if at.Event == len(l)-1 && withinGroup(e) {
		return true
	}
	if at.Event == 0 || !withinGroup(l[at.Event-1]) {
		return e.Beam != api.NoBeam && e.Beam != api.BeamBegin
	}
	return e.Beam != api.BeamIn && e.Beam != api.BeamEnd || e.Value != l[at.Event-1].Value
}

// withinGroup reports whether a beam goes on behind an event.
func withinGroup(e api.Event) bool {
	return e.Beam == api.BeamBegin || e.Beam == api.BeamIn
}

func tiedToNothing(s api.Score, at Spot) bool {
	l := voiceAt(s, at)
	if at.Event == len(l)-1 {
		return false
	}
	return slices.ContainsFunc(l[at.Event].Notes, func(n api.Note) bool {
		_, ok := noteOf(l[at.Event+1], n.Pitch)
		return n.Tie && !ok
	})
}

func noText(e api.Event) bool {
	return e.Text != "" && !isText(e.Text)
}

func restWithText(e api.Event) bool {
	return e.Text != "" && isRest(e)
}

func textOfSecondVoice(s api.Score, at Spot) bool {
	return eventAt(s, at).Text != "" && at.Voice == 1
}

func unlikeMeter(s api.Score, at Spot) bool {
	length, _ := tone.Bar(s.Meter)
	return !s.Free[at.Measure] && voiceLength(s, at) != length
}

func unlikeFirstVoice(s api.Score, at Spot) bool {
	return s.Free[at.Measure] && voiceLength(s, at) != measureLength(s, at.Measure)
}

// isRest reports whether an event is a rest.
func isRest(e api.Event) bool {
	return len(e.Notes) == 0
}

// noteOf returns the note of an event that has a pitch, and whether there is one.
func noteOf(e api.Event, p api.Pitch) (api.Note, bool) {
	for _, n := range e.Notes {
		if n.Pitch == p {
			return n, true
		}
	}
	return api.Note{}, false
}

// within reports whether a number is from least to most.
func within[T ~int](n, least, most T) bool {
	return least <= n && n <= most
}
