package page

import (
	"cmp"

	"custos/api"
	"custos/score"
	"custos/tone"
)

// Beams of a cell.
const (
	noBeam    = 0
	hook      = 1
	toRight   = 2
	toLeft    = 3
	bothSides = 4
)

// Kinds of heads.
const (
	blackHead = 1
	whiteHead = 2
	wholeHead = 3
)

// writer writes the cells of a staff, slot by slot.
type writer struct {
	*tone.State // which alterations hold in the measure that is written
	score       api.Score
	part        api.Part
	columns     []api.Ratio // of that measure
	voices      []voice     // of that measure
}

// voice is a voice of which some events are written.
type voice struct {
	events []api.Event
	onsets []api.Ratio
	next   int
}

// Cells returns the cells of a score, by system, staff and slot.
func Cells(s api.Score) ([][][]api.Cell, api.Errno) {
	systems, e := Layout(s)
	if e != api.OK {
		return nil, e
	}
	l := make([][][]api.Cell, len(systems))
	for i, system := range systems {
		for _, part := range s.Parts {
			l[i] = append(l[i], staff(s, part, system))
		}
	}
	return l, api.OK
}

// staff returns the cells of a part in a system.
func staff(s api.Score, part api.Part, system System) []api.Cell {
	state, _ := tone.New(s.Key)
	w := &writer{State: state, score: s, part: part}
	var l []api.Cell
	for _, slot := range system.Slots {
		l = append(l, w.cell(slot))
	}
	return l
}

// cell returns the cell of a slot.
func (w *writer) cell(slot Slot) api.Cell {
	c := api.Cell{Kind: slot.Kind}
	switch slot.Kind {
	case api.ClefCell:
		c.Clef = w.part.Clef
	case api.KeyCell:
		c.Key = w.score.Key
	case api.MeterCell:
		c.Beats, c.Unit = w.score.Meter.Beats, w.score.Meter.Unit
	case api.BarCell:
		c.Bar, c.Free = w.score.Bars[slot.Measure], w.score.Free[slot.Measure]
	case api.EventCell:
		if slot.Column == 0 {
			w.begin(slot.Measure)
		}
		w.column(&c, w.columns[slot.Column])
	}
	return c
}

// begin begins a measure.
func (w *writer) begin(measure int) {
	w.Reset()
	w.columns, w.voices = columns(w.score, measure), nil
	for _, events := range w.part.Measures[measure].Voices {
		onsets, _, _ := score.Onsets(events)
		w.voices = append(w.voices, voice{events: events, onsets: onsets})
	}
}

// column writes what stands in the next column of the measure.
func (w *writer) column(c *api.Cell, time api.Ratio) {
	for side := range w.voices {
		e, begins := w.voices[side].pass(time)
		if begins {
			w.event(c, side, e)
		}
		beam := beamAt(e, begins)
		c.Beam[2*side] = beam
		if e.Value == api.Sixteenth {
			c.Beam[2*side+1] = beam
		}
	}
}

// pass goes on to a column, and returns the event that begins there, or else the last one before it, and whether one begins there. All voices have an event in the first column.
func (v *voice) pass(time api.Ratio) (e api.Event, begins bool) {
	if v.next < len(v.onsets) && v.onsets[v.next] == time {
		v.next++
		begins = true
	}
	return v.events[v.next-1], begins
}

// event writes an event, but for its beams.
func (w *writer) event(c *api.Cell, side int, e api.Event) {
	c.Triple[side] = e.Triple
	if side == 0 {
		c.Text = e.Text
	}
	if len(e.Notes) == 0 {
		zone := w.zone(side)
		c.Rest[zone], c.RestDot[zone] = e.Value, e.Dot
		return
	}
	c.Stem[side] = e.Value != api.Whole
	for _, n := range e.Notes {
		c.Heads = insert(c.Heads, w.head(e, n), compareHeads)
	}
}

// zone returns the zone for the rests of a voice.
func (w *writer) zone(side int) int {
	if len(w.voices) == 1 {
		return 0
	}
	return side + 1
}

// head returns the head of a note.
func (w *writer) head(e api.Event, n api.Note) api.Head {
	step, _ := tone.Staff(w.part.Clef, n.Pitch)
	acc, _ := w.Print(n.Pitch.Step, n.Pitch.Alter)
	return api.Head{Step: step, Kind: headKind(e.Value), Acc: acc, Dot: e.Dot, Tie: n.Tie}
}

// compareHeads says which of two heads is lower.
func compareHeads(a, b api.Head) int {
	return cmp.Compare(a.Step, b.Step)
}

// headKind returns the kind of heads with a value.
func headKind(v api.Value) int {
	switch v {
	case api.Whole:
		return wholeHead
	case api.Half:
		return whiteHead
	}
	return blackHead
}

// beamAt returns the first beam in a column in which an event begins, or which comes between it and the next one.
func beamAt(e api.Event, begins bool) int {
	switch {
	case begins && !hasHook(e):
		return noBeam
	case begins:
		return [...]int{api.NoBeam: hook, api.BeamBegin: toRight, api.BeamIn: bothSides, api.BeamEnd: toLeft}[e.Beam]
	case e.Beam == api.BeamBegin || e.Beam == api.BeamIn:
		return bothSides
	}
	return noBeam
}

// hasHook reports whether an event has a hook or stands under a beam.
func hasHook(e api.Event) bool {
	return len(e.Notes) > 0 && (e.Value == api.Eighth || e.Value == api.Sixteenth)
}
