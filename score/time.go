package score

import (
	"cmp"
	"slices"

	"custos/api"
	"custos/tone"
)

// spotted is a note of an event.
type spotted struct {
	at    Spot
	pitch api.Pitch
}

// Onsets returns the onsets of events and their length.
func Onsets(l []api.Event) ([]api.Ratio, api.Ratio, api.Errno) {
	if len(l) > MaxEvents {
		return nil, api.Ratio{}, api.ErrMany
	}
	onsets := make([]api.Ratio, len(l))
	total := api.Ratio{N: 0, D: 1}
	for i, e := range l {
		if noValue(e) {
			return nil, api.Ratio{}, api.ErrValue
		}
		onsets[i] = total
		total = sum(total, eventLength(e))
	}
	return onsets, total, api.OK
}

// Lengths returns the lengths of measures.
func Lengths(s api.Score) ([]api.Ratio, api.Errno) {
	if _, e := Check(s); e != api.OK {
		return nil, e
	}
	l := make([]api.Ratio, len(s.Bars))
	for m := range l {
		l[m] = measureLength(s, m)
	}
	return l, api.OK
}

// Sounds returns what is heard.
func Sounds(s api.Score) ([]Sound, api.Errno) {
	if _, e := Check(s); e != api.OK {
		return nil, e
	}
	begins := measureBegins(s)
	continuing := map[spotted]bool{}
	var l []Sound
	for at := range voices(s) {
		onsets, _, _ := Onsets(voiceAt(s, at))
		for i, onset := range onsets {
			at.Event = i
			for _, n := range eventAt(s, at).Notes {
				if continuing[spotted{at, n.Pitch}] {
					continue
				}
				length := follow(s, at, n, continuing)
				l = append(l, Sound{Part: at.Part, Onset: sum(begins[at.Measure], onset), Length: length, Pitch: n.Pitch})
			}
		}
	}
	slices.SortFunc(l, compareSounds)
	return l, api.OK
}

// follow returns the length of a note and of all that continue it, which it adds to those that are known to do so.
func follow(s api.Score, at Spot, n api.Note, continuing map[spotted]bool) api.Ratio {
	length := eventLength(eventAt(s, at))
	for n.Tie {
		next, ok := after(s, at)
		if !ok {
			break
		}
		n, ok = noteOf(eventAt(s, next), n.Pitch)
		if !ok {
			break
		}
		at = next
		continuing[spotted{at, n.Pitch}] = true
		length = sum(length, eventLength(eventAt(s, at)))
	}
	return length
}

// compareSounds says which of two sounds comes first.
func compareSounds(a, b Sound) int {
	if c, _ := tone.Cmp(a.Onset, b.Onset); c != 0 {
		return c
	}
	if c := cmp.Or(cmp.Compare(a.Part, b.Part), cmp.Compare(a.Pitch.Step, b.Pitch.Step), cmp.Compare(a.Pitch.Alter, b.Pitch.Alter)); c != 0 {
		return c
	}
	c, _ := tone.Cmp(a.Length, b.Length)
	return c
}

// measureBegins returns where the measures of a right score begin.
func measureBegins(s api.Score) []api.Ratio {
	l := make([]api.Ratio, len(s.Bars))
	begin := api.Ratio{N: 0, D: 1}
	for m := range l {
		l[m] = begin
		begin = sum(begin, measureLength(s, m))
	}
	return l
}

// measureLength returns the length of a measure.
func measureLength(s api.Score, m int) api.Ratio {
	return voiceLength(s, Spot{Measure: m})
}

// voiceLength returns the length of the voice of a spot, which has not too many events, and whose values are right.
func voiceLength(s api.Score, at Spot) api.Ratio {
	_, length, _ := Onsets(voiceAt(s, at))
	return length
}

// eventLength returns the length of an event whose value is right.
func eventLength(e api.Event) api.Ratio {
	length, _ := tone.Length(e.Value, e.Dot, e.Triple)
	return length
}

// sum adds two times. All denominators divide 96, and no score is long enough for an error.
func sum(a, b api.Ratio) api.Ratio {
	c, _ := tone.Add(a, b)
	return c
}
