package grammar_test

import (
	"fmt"
	"math"
	"math/rand"
	"reflect"
	"slices"
	"testing"

	"custos/api"
	"custos/grammar"
	"custos/page"
	"custos/score"
)

// whole is the length of a whole note in the units in which the tests count time.
const whole = 96

// extremes has numbers that are too great, or too small, for everything.
var extremes = []int{math.MinInt, math.MinInt + 1, -1 << 32, -1000, 1000, 1 << 32, math.MaxInt - 1, math.MaxInt}

// bases has the Steps of the bottom lines of the clefs.
var bases = [...]int{api.Treble: 30, api.Alto: 24, api.Bass: 18}

// frame returns a frame with some treble clefs.
func frame(key, beats, unit, staves int) grammar.Frame {
	return grammar.Frame{Clefs: slices.Repeat([]api.Clef{api.Treble}, staves), Key: key, Meter: api.Meter{Beats: beats, Unit: unit}, Bar: api.Single}
}

// free returns a frame with some treble clefs of a measure that is free.
func free(staves int) grammar.Frame {
	f := frame(0, 1, 4, staves)
	f.Free = true
	return f
}

// nothing is a cell without an event.
var nothing = api.Cell{Kind: api.EventCell}

// note returns a cell with heads of a kind, with a stem and two beams on a side. Whole notes have no stem.
func note(kind, side, first, second int, steps ...int) api.Cell {
	c := nothing
	for _, s := range steps {
		c.Heads = append(c.Heads, api.Head{Step: s, Kind: kind})
	}
	c.Stem[side] = kind != 3
	c.Beam[2*side], c.Beam[2*side+1] = first, second
	return c
}

// quarter returns a cell with a quarter note for the only or the first voice.
func quarter(steps ...int) api.Cell { return note(1, 0, 0, 0, steps...) }

// eighth returns a cell with an eighth note for the only or the first voice.
func eighth(steps ...int) api.Cell { return note(1, 0, 1, 0, steps...) }

// lower returns a cell with a quarter note for the second voice.
func lower(steps ...int) api.Cell { return note(1, 1, 0, 0, steps...) }

// pause returns a cell with a rest.
func pause(zone int, v api.Value) api.Cell {
	c := nothing
	c.Rest[zone] = v
	return c
}

// beams returns a cell without an event.
func beams(l ...int) api.Cell {
	c := nothing
	copy(c.Beam[:], l)
	return c
}

// both returns a cell with what two cells have, of which the second one has what is lower.
func both(a, b api.Cell) api.Cell {
	c := nothing
	c.Heads = append(slices.Clone(b.Heads), a.Heads...)
	for i := range 3 {
		c.Rest[i], c.RestDot[i] = a.Rest[i]+b.Rest[i], a.RestDot[i] || b.RestDot[i]
	}
	for i := range 2 {
		c.Stem[i], c.Triple[i] = a.Stem[i] || b.Stem[i], a.Triple[i] || b.Triple[i]
	}
	for i := range 4 {
		c.Beam[i] = a.Beam[i] + b.Beam[i]
	}
	c.Text = a.Text + b.Text
	return c
}

// with returns a cell that is changed.
func with(c api.Cell, change func(c *api.Cell)) api.Cell {
	c.Heads = slices.Clone(c.Heads)
	change(&c)
	return c
}

// acc returns a cell whose head has an accidental.
func acc(c api.Cell, head, sign int) api.Cell {
	return with(c, func(c *api.Cell) { c.Heads[head].Acc = sign })
}

// tied returns a cell whose head is tied.
func tied(c api.Cell, head int) api.Cell {
	return with(c, func(c *api.Cell) { c.Heads[head].Tie = true })
}

// row returns the cells of a measure of one staff.
func row(l ...api.Cell) [][]api.Cell { return [][]api.Cell{l} }

// copied returns a copy of the cells of a measure.
func copied(l [][]api.Cell) [][]api.Cell {
	out := make([][]api.Cell, len(l))
	for s := range l {
		out[s] = slices.Clone(l[s])
		for c := range out[s] {
			out[s][c].Heads = slices.Clone(out[s][c].Heads)
		}
	}
	return out
}

// same compares two values; empty lists and nil are the same.
func same(a, b any) bool {
	return fmt.Sprintf("%+v", a) == fmt.Sprintf("%+v", b)
}

// zero reports whether a value is the zero value of its type, or an empty list.
func zero(x any) bool {
	v := reflect.ValueOf(x)
	return v.IsZero() || v.Kind() == reflect.Slice && v.Len() == 0
}

// parsed returns the score of a text.
func parsed(t *testing.T, text string) api.Score {
	t.Helper()
	s, line, e := score.Parse(text)
	if e != api.OK {
		t.Fatalf("Parse(%q): line %d, error %d", text, line, e)
	}
	return s
}

// columnsOf returns the cells of the measures of a score that fits, by measure, staff and column.
func columnsOf(s api.Score) [][][]api.Cell {
	out := make([][][]api.Cell, len(s.Bars))
	systems, e := page.Cells(s)
	if e != api.OK {
		panic(e)
	}
	layout, _ := page.Layout(s)
	for i, system := range layout {
		for _, staff := range systems[i] {
			measure := make([][]api.Cell, len(s.Bars))
			for j, slot := range system.Slots {
				if slot.Kind == api.EventCell {
					measure[slot.Measure] = append(measure[slot.Measure], staff[j])
				}
			}
			for m := system.First; m < system.First+system.Count; m++ {
				out[m] = append(out[m], measure[m])
			}
		}
	}
	return out
}

// measuresOf returns the measures of all parts with a number.
func measuresOf(s api.Score, number int) []api.Measure {
	var l []api.Measure
	for _, p := range s.Parts {
		l = append(l, p.Measures[number])
	}
	return l
}

// fitting returns some scores that fit.
func fitting(seed int64, n int) []api.Score {
	r := rand.New(rand.NewSource(seed))
	var l []api.Score
	for len(l) < n {
		s := tune(r)
		if _, e := page.Fits(s); e == api.OK {
			l = append(l, s)
		}
	}
	return l
}

// tune returns a score that often fits.
func tune(r *rand.Rand) api.Score {
	s := api.Score{Key: r.Intn(9) - 4, Meter: api.Meter{Beats: 1 + r.Intn(3), Unit: []int{4, 4, 8}[r.Intn(3)]}}
	s.Parts = make([]api.Part, 1+r.Intn(3))
	for p := range s.Parts {
		s.Parts[p].Clef = api.Clef(1 + r.Intn(3))
	}
	for range 1 + r.Intn(8/len(s.Parts)) {
		length, isFree := whole*s.Meter.Beats/s.Meter.Unit, r.Intn(4) == 0
		if isFree {
			length = 12 * (1 + r.Intn(12))
		}
		s.Bars, s.Free = append(s.Bars, api.Bar(1+r.Intn(5))), append(s.Free, isFree)
		for p := range s.Parts {
			part := &s.Parts[p]
			part.Measures = append(part.Measures, measure(r, bases[part.Clef], length))
		}
	}
	return s
}

// measure returns a measure of a length in units, for a clef with a base.
func measure(r *rand.Rand, base, length int) api.Measure {
	if r.Intn(2) > 0 {
		return api.Measure{Voices: [][]api.Event{melody(r, base-4, base+12, length, true)}}
	}
	return api.Measure{Voices: [][]api.Event{melody(r, base+5, base+12, length, true), melody(r, base-4, base+3, length, false)}}
}

// melody returns a voice whose notes have Steps in some limits.
func melody(r *rand.Rand, least, most, length int, texts bool) []api.Event {
	l := rhythm(r, length)
	for i := range l {
		switch {
		case i > 0 && r.Intn(3) == 0:
			l[i].Notes = slices.Clone(l[i-1].Notes)
		case r.Intn(4) > 0:
			for step := least + r.Intn(most-least+1); step <= most && len(l[i].Notes) < score.MaxNotes; step += 2 + r.Intn(6) {
				l[i].Notes = append(l[i].Notes, api.Note{Pitch: api.Pitch{Step: step, Alter: r.Intn(3) - 1}})
			}
		}
		if texts && len(l[i].Notes) > 0 && r.Intn(3) == 0 {
			l[i].Text = []string{"a", "la", "sol-", "abcd", "z-"}[r.Intn(5)]
		}
	}
	tie(r, l)
	beam(r, l)
	return l
}

// rhythm returns some events with a length in units, which is a multiple of 4.
func rhythm(r *rand.Rand, length int) []api.Event {
	triples := r.Intn(4) == 0
	for {
		var l []api.Event
		left := length
		for range 40 {
			e := api.Event{Value: 1 << r.Intn(5), Dot: r.Intn(5) == 0, Triple: triples && r.Intn(2) == 0}
			if n := unitsOf(e.Value, e.Dot, e.Triple); n <= left {
				l, left = append(l, e), left-n
			}
			if left == 0 {
				return l
			}
		}
	}
}

// unitsOf returns the length of an event in units.
func unitsOf(v api.Value, dot, triple bool) int {
	n := whole / int(v)
	if dot {
		n = n * 3 / 2
	}
	if triple {
		n = n * 2 / 3
	}
	return n
}

// tie ties some notes of a voice.
func tie(r *rand.Rand, l []api.Event) {
	for i, e := range l {
		for k := range e.Notes {
			goesOn := i+1 == len(l) || slices.ContainsFunc(l[i+1].Notes, func(n api.Note) bool { return n.Pitch == e.Notes[k].Pitch })
			e.Notes[k].Tie = goesOn && r.Intn(2) == 0
		}
	}
}

// beam puts some events of a voice under beams.
func beam(r *rand.Rand, l []api.Event) {
	for from := 0; from < len(l); {
		to := from
		for to < len(l) && l[to].Value == l[from].Value && l[to].Value >= api.Eighth && len(l[to].Notes) > 0 && r.Intn(5) > 0 {
			to++
		}
		if to-from < 2 {
			from++
			continue
		}
		for i := from; i < to; i++ {
			l[i].Beam = api.BeamIn
		}
		l[from].Beam, l[to-1].Beam = api.BeamBegin, api.BeamEnd
		from = to
	}
}
