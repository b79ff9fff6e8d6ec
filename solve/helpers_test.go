package solve_test

import (
	"fmt"
	"math"
	"math/rand"
	"reflect"
	"slices"
	"testing"

	"custos/api"
	"custos/cell"
	"custos/grammar"
	"custos/page"
	"custos/score"
	"custos/solve"
)

// extremes has numbers that are too great, or too small, for everything.
var extremes = []int{math.MinInt, math.MinInt + 1, -1 << 32, -1000, 1 << 20, 1 << 32, math.MaxInt - 1, math.MaxInt}

// staff is what a case has of one staff.
type staff = [][]api.Feature

// frame returns a frame with some treble clefs.
func frame(beats, unit, staves int) grammar.Frame {
	return grammar.Frame{Clefs: slices.Repeat([]api.Clef{api.Treble}, staves), Meter: api.Meter{Beats: beats, Unit: unit}, Bar: api.Single}
}

// one returns a case of one column in 1/4.
func one(l ...api.Feature) solve.Case {
	return solve.Case{Frame: frame(1, 4, 1), Cells: [][][]api.Feature{{l}}}
}

// ask returns a feature whose options have these values and misses, one after the other.
func ask(w api.What, index int, l ...int) api.Feature {
	f := api.Feature{Place: api.Place{What: w, Index: index}}
	for i := 0; i < len(l); i += 2 {
		f.Options = append(f.Options, api.Option{Value: l[i], Miss: l[i+1]})
	}
	return f
}

// bits returns the features of texts, up to four of which are in one cell, with two options that cost nothing.
func bits(n int) solve.Case {
	c := solve.Case{Frame: frame(1, 4, 1), Cells: [][][]api.Feature{nil}}
	for i := range n {
		if i%4 == 0 {
			c.Cells[0] = append(c.Cells[0], nil)
		}
		last := &c.Cells[0][i/4]
		*last = append(*last, ask(api.WText, i%4, 0, 0, 1, 0))
	}
	return c
}

// the example of the chapter: a rest that may be a quarter, or a half.
func example() solve.Case { return one(ask(api.WRest, 0, 4, 1, 2, 0)) }

// copied returns a copy of a case.
func copied(c solve.Case) solve.Case {
	out := solve.Case{Frame: c.Frame}
	out.Frame.Clefs = slices.Clone(c.Frame.Clefs)
	for _, s := range c.Cells {
		var columns staff
		for _, l := range s {
			var features []api.Feature
			for _, f := range l {
				f.Options = slices.Clone(f.Options)
				features = append(features, f)
			}
			columns = append(columns, features)
		}
		out.Cells = append(out.Cells, columns)
	}
	return out
}

// same compares two values; empty lists and nil are the same.
func same(a, b any) bool {
	return fmt.Sprintf("%+v", a) == fmt.Sprintf("%+v", b)
}

// zero reports whether a value is the zero value of its type, or an empty list.
func zero(x any) bool {
	v := reflect.ValueOf(x)
	return v.IsZero() || v.Kind() == reflect.Slice && v.Len() == 0
}

// weights returns weights that may be.
func weights(r *rand.Rand) solve.Weights {
	w := solve.Weights{r.Intn(100) - 50}
	for i := 1; i < len(w); i++ {
		w[i] = 1 + r.Intn(16)
	}
	return w
}

// guess returns a case of a few features with a few hundred choices at most.
func guess(r *rand.Rand) solve.Case {
	c := solve.Case{Frame: frame(1+r.Intn(2), 4, 1+r.Intn(2))}
	c.Frame.Free = r.Intn(2) == 0
	columns, left := 1+r.Intn(2), 200
	for range c.Frame.Clefs {
		var s staff
		for range columns {
			l := slot(r)
			for i := range l {
				l[i].Options = l[i].Options[:1+r.Intn(min(len(l[i].Options), left))]
				left /= len(l[i].Options)
			}
			s = append(s, l)
		}
		c.Cells = append(c.Cells, s)
	}
	return c
}

// slot returns some features of a cell, most often those of a rest or of a head. Their places are of anywhere.
func slot(r *rand.Rand) []api.Feature {
	l := [][]api.Feature{
		{few(r, api.WRest, 0, 4, 4, 8, 2, 0), few(r, api.WRestDot, 0, 0, 0, 1)},
		{few(r, api.WRest, 0, 4, 4, 8), few(r, api.WBeam, 0, 0, 0, 4)},
		{few(r, api.WHead, 4, 1, 1, 2, 3), few(r, api.WStem, 0, 1, 1, 0), few(r, api.WBeam, 0, 0, 1, 0), few(r, api.WAcc, 4, 0, 1, 3), few(r, api.WText, 0, 0, 1, 27)},
		{few(r, api.WHead, 4, 1), few(r, api.WStem, 0, 1), few(r, api.WTie, 4, 0, 1, 0)},
		{few(r, api.WClef, 0, 1, 2)},
		{few(r, api.What([]int{0, 17, -1, math.MaxInt, math.MinInt}[r.Intn(5)]), 0, 0, 1)},
		{few(r, api.WStem, 0, 0, 1), few(r, api.WStem, 0, 0)},
		nil,
	}[[]int{0, 0, 0, 0, 0, 0, 0, 1, 1, 1, 2, 2, 2, 2, 2, 3, 3, 3, 4, 5, 6, 7}[r.Intn(22)]]
	if r.Intn(2) == 0 && len(l) > 0 {
		l = append(l, few(r, api.WTriple, 0, 0, 1, 0))
	}
	for i := range l {
		p := &l[i].Place
		p.System, p.Staff, p.Slot = r.Intn(3), r.Intn(3), r.Intn(3)
	}
	return l
}

// few returns a feature with some values, in any order, whose misses are low.
func few(r *rand.Rand, w api.What, index int, values ...int) api.Feature {
	f := ask(w, index)
	for _, i := range r.Perm(len(values)) {
		f.Options = append(f.Options, api.Option{Value: values[i], Miss: r.Intn(4)})
	}
	return f
}

// fitting returns cases of the measures of scores that fit, with the choices that are theirs, and their measures.
func fitting(seed int64, n int) []known {
	r := rand.New(rand.NewSource(seed))
	var l []known
	for len(l) < n {
		s := tune(r)
		if _, e := page.Fits(s); e != api.OK {
			continue
		}
		frames, _ := grammar.Frames(s)
		for i, columns := range columnsOf(s) {
			k := known{c: solve.Case{Frame: frames[i]}}
			for p, part := range s.Parts {
				k.measures = append(k.measures, part.Measures[i])
				var l staff
				for _, one := range columns[p] {
					bare, _ := cell.Bare(one)
					features, _ := cell.Read(bare, api.EventCell)
					l = append(l, features)
				}
				k.c.Cells = append(k.c.Cells, l)
			}
			l = append(l, k)
		}
	}
	return l
}

// known is a case of a page without dirt: the best options are those of its measures.
type known struct {
	c        solve.Case
	measures []api.Measure
}

// columnsOf returns the cells of the measures of a score that fits, by measure, staff and column.
func columnsOf(s api.Score) [][][]api.Cell {
	out := make([][][]api.Cell, len(s.Bars))
	systems, _ := page.Cells(s)
	layout, _ := page.Layout(s)
	for i, system := range layout {
		for _, cells := range systems[i] {
			measure := make([][]api.Cell, len(s.Bars))
			for j, slot := range system.Slots {
				if slot.Kind == api.EventCell {
					measure[slot.Measure] = append(measure[slot.Measure], cells[j])
				}
			}
			for m := system.First; m < system.First+system.Count; m++ {
				out[m] = append(out[m], measure[m])
			}
		}
	}
	return out
}

// tune returns a score that often fits.
func tune(r *rand.Rand) api.Score {
	s := api.Score{Key: r.Intn(9) - 4, Meter: api.Meter{Beats: 1 + r.Intn(3), Unit: 4}}
	for range 1 + r.Intn(3) {
		s.Parts = append(s.Parts, api.Part{Clef: api.Clef(1 + r.Intn(3))})
	}
	for range 1 + r.Intn(3) {
		s.Bars, s.Free = append(s.Bars, api.Bar(1+r.Intn(5))), append(s.Free, r.Intn(4) == 0)
		for p := range s.Parts {
			s.Parts[p].Measures = append(s.Parts[p].Measures, api.Measure{Voices: [][]api.Event{melody(r, s.Meter.Beats)}})
		}
	}
	return s
}

// melody returns the events of some quarters.
func melody(r *rand.Rand, beats int) []api.Event {
	var l []api.Event
	for range beats {
		n := r.Intn(3)
		for range 1 << n {
			e := api.Event{Value: api.Quarter << n}
			if r.Intn(4) > 0 {
				e.Notes = []api.Note{{Pitch: api.Pitch{Step: 26 + r.Intn(5), Alter: r.Intn(3) - 1}}}
			}
			l = append(l, e)
		}
	}
	return l
}

// parsed returns the measures of a score of one measure in 1/4 with a treble clef.
func parsed(t *testing.T, voice string) []api.Measure {
	t.Helper()
	s, line, e := score.Parse("key 0\nmeter 1 4\nbars single\npart treble\nmeasure\nvoice " + voice + "\n")
	if e != api.OK {
		t.Fatalf("Parse: line %d, error %d", line, e)
	}
	return s.Parts[0].Measures
}
