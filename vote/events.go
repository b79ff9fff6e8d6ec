package vote

import (
	"custos/api"
	"custos/score"
)

// chord is an event that is ready to be compared: of its notes only the first one of each pitch is left.
type chord struct {
	api.Event
	weight int
	ties   map[api.Pitch]bool // whether a pitch is tied
}

// Distance returns the distance of two events.
func Distance(a, b api.Event) int {
	return newChord(a).distance(newChord(b))
}

// Weight returns the weight of an event.
func Weight(e api.Event) int {
	return 2 + len(e.Notes)
}

// Voices returns the distance of two voices.
func Voices(a, b []api.Event) (int, api.Errno) {
	if len(a) > score.MaxEvents || len(b) > score.MaxEvents {
		return 0, api.ErrMany
	}
	return last(ofChords(mapped(a, newChord), mapped(b, newChord)).table()), api.OK
}

// ofChords returns what aligns two voices.
func ofChords(a, b []chord) aligner[chord] {
	return aligner[chord]{a: a, b: b, weight: func(c chord) int { return c.weight }, distance: chord.distance}
}

// newChord returns an event that is ready to be compared.
func newChord(e api.Event) chord {
	c := chord{Event: e, weight: Weight(e), ties: map[api.Pitch]bool{}}
	c.Notes = nil
	for _, n := range e.Notes {
		if _, ok := c.ties[n.Pitch]; !ok {
			c.ties[n.Pitch] = n.Tie
			c.Notes = append(c.Notes, n)
		}
	}
	return c
}

// distance returns the distance of two events.
func (c chord) distance(d chord) int {
	n := differing(c.Value != d.Value || c.Dot != d.Dot || c.Triple != d.Triple, c.Beam != d.Beam, c.Text != d.Text)
	alone := len(d.Notes)
	for _, note := range c.Notes {
		tie, ok := d.ties[note.Pitch]
		if ok {
			alone--
		}
		n += differing(!ok || tie != note.Tie)
	}
	return n + alone
}

// differing returns how many of some things differ.
func differing(l ...bool) int {
	n := 0
	for _, differs := range l {
		if differs {
			n++
		}
	}
	return n
}

// mapped returns what a function returns for each element of a list.
func mapped[T, U any](l []T, one func(T) U) []U {
	m := make([]U, len(l))
	for i, x := range l {
		m[i] = one(x)
	}
	return m
}
