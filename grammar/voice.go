package grammar

import (
	"iter"
	"slices"

	"custos/api"
	"custos/tone"
)

// Beams of a cell.
const (
	noBeam    = 0
	toRight   = 2
	toLeft    = 3
	bothSides = 4
)

// Kinds of heads.
const (
	blackHead = 1
	whiteHead = 2
	wholeHead = 3
)

// Steps of the staff that heads have which are not between two voices.
const (
	lowestFirst = 5
	highestLast = 3
)

// voice is what a voice of a staff has in each column.
type voice []*part

// part is what a voice has in a cell.
type part struct {
	at           Spot
	heads        []api.Head
	rest         api.Value
	restDot      bool
	stem, triple bool
	beams        [2]int // the first and the second one
	text         string
	notes        []api.Note // of the heads, as soon as they are heard
}

// voicesOf returns the voices of a staff.
func voicesOf(staff int, l []api.Cell) []voice {
	voices := make([]voice, 1)
	if slices.ContainsFunc(l, showsSecond) {
		voices = make([]voice, 2)
	}
	for v := range voices {
		for column, c := range l {
			voices[v] = append(voices[v], partOf(c, Spot{staff, column, v}, len(voices)))
		}
	}
	return voices
}

// showsSecond reports whether a cell shows that there are two voices.
func showsSecond(c api.Cell) bool {
	return c.Stem[1] || c.Triple[1] || c.Rest[1] != 0 || c.Rest[2] != 0 || c.Beam[2] != noBeam || c.Beam[3] != noBeam
}

// partOf returns what a voice has in a cell, if there are so many voices.
func partOf(c api.Cell, at Spot, voices int) *part {
	side, zone := at.Voice, 0
	if voices == 2 {
		zone = side + 1
	}
	p := &part{
		at: at, rest: c.Rest[zone], restDot: c.RestDot[zone],
		stem: c.Stem[side], triple: c.Triple[side], beams: [2]int(c.Beam[2*side:]),
	}
	for _, h := range c.Heads {
		if voices == 1 || side == 0 && h.Step >= lowestFirst || side == 1 && h.Step <= highestLast {
			p.heads = append(p.heads, h)
		}
	}
	if side == 0 {
		p.text = c.Text
	}
	return p
}

// events yields those columns of a voice in which it has an event.
func (v voice) events() iter.Seq[*part] {
	return func(yield func(*part) bool) {
		for _, p := range v {
			if p.isEvent() && !yield(p) {
				return
			}
		}
	}
}

// length returns the sum of the lengths of all events of a voice.
func (v voice) length() api.Ratio {
	sum := api.Ratio{N: 0, D: 1}
	for p := range v.events() {
		sum, _ = tone.Add(sum, p.length())
	}
	return sum
}

func (p *part) isEvent() bool {
	return len(p.heads) > 0 || p.rest != 0
}

// kind returns the kind of the heads, or 0 if there are none.
func (p *part) kind() int {
	if len(p.heads) == 0 {
		return 0
	}
	return p.heads[0].Kind
}

// value returns the value of an event.
func (p *part) value() api.Value {
	switch {
	case len(p.heads) == 0:
		return p.rest
	case p.kind() == wholeHead:
		return api.Whole
	case p.kind() == whiteHead:
		return api.Half
	case p.beams[0] == noBeam:
		return api.Quarter
	case p.beams[1] == noBeam:
		return api.Eighth
	}
	return api.Sixteenth
}

// dot reports whether an event has a dot.
func (p *part) dot() bool {
	if len(p.heads) == 0 {
		return p.restDot
	}
	return p.heads[0].Dot
}

// length returns the length of an event.
func (p *part) length() api.Ratio {
	length, _ := tone.Length(p.value(), p.dot(), p.triple)
	return length
}

// event returns the event whose notes were heard.
func (p *part) event() api.Event {
	return api.Event{Value: p.value(), Dot: p.dot(), Triple: p.triple, Notes: p.notes, Beam: p.beam(), Text: p.text}
}

// beam returns where an event stands in a group.
func (p *part) beam() api.Beam {
	switch p.beams[0] {
	case toRight:
		return api.BeamBegin
	case bothSides:
		return api.BeamIn
	case toLeft:
		return api.BeamEnd
	}
	return api.NoBeam
}

// hear finds the notes of the heads, in a state that says what holds before them, on a staff whose bottom line has a Step.
func (p *part) hear(s *tone.State, base int) {
	for _, h := range p.heads {
		alter, e := s.Hear(base+h.Step, h.Acc)
		breakIf(e != api.OK, api.ErrAcc, p.at)
		p.notes = append(p.notes, api.Note{Pitch: api.Pitch{Step: base + h.Step, Alter: alter}, Tie: h.Tie})
	}
}

// leadsTo reports whether the next event has a note for each tie of this one.
func (p *part) leadsTo(next *part) bool {
	return !slices.ContainsFunc(p.notes, func(n api.Note) bool {
		return n.Tie && !slices.ContainsFunc(next.notes, func(m api.Note) bool { return m.Pitch == n.Pitch })
	})
}
