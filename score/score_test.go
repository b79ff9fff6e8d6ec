package score_test

import (
	"math/rand"
	"testing"

	"custos/api"
	"custos/score"
)

// odd returns scores that are not right, and are to be copied and compared like others.
func odd() []api.Score {
	return []api.Score{
		{},
		{Key: 99, Meter: api.Meter{Beats: -1, Unit: -1}},
		{Bars: []api.Bar{9}, Free: []bool{true, false}},
		{Parts: make([]api.Part, 5)},
		{Parts: []api.Part{{Clef: 7, Measures: make([]api.Measure, 3)}}},
		{Parts: []api.Part{{Measures: []api.Measure{{Voices: make([][]api.Event, 4)}}}}},
		{Parts: []api.Part{{Measures: []api.Measure{{Voices: [][]api.Event{make([]api.Event, 60)}}}}}},
		{Parts: []api.Part{{Measures: []api.Measure{{Voices: [][]api.Event{{{Value: -1, Beam: 9, Text: "?", Notes: make([]api.Note, 20)}}}}}}}},
	}
}

func TestCopy(t *testing.T) {
	r := rand.New(rand.NewSource(61))
	l := odd()
	for range 60 {
		l = append(l, tune(r))
	}
	for _, s := range l {
		before := shown(s)
		c := score.Copy(s)
		if shown(c) != before {
			t.Fatalf("Copy of %s is %s", before, shown(c))
		}
		scribble(c)
		if shown(s) != before {
			t.Fatalf("a copy shares memory with %s", before)
		}
	}
}

func TestSameOfEqualScores(t *testing.T) {
	r := rand.New(rand.NewSource(62))
	l := odd()
	for range 60 {
		l = append(l, tune(r))
	}
	for i, a := range l {
		for j, b := range l {
			if want := shown(a) == shown(b); score.Same(a, b) != want || score.Same(a, score.Copy(b)) != want {
				t.Errorf("Same of scores %d and %d is not %v", i, j, want)
			}
		}
	}
}

// TestSameOfEmptyLists makes all lists empty, or nil.
func TestSameOfEmptyLists(t *testing.T) {
	measure := func(m api.Measure) api.Score {
		return api.Score{Parts: []api.Part{{Measures: []api.Measure{m}}}}
	}
	events := func(e ...api.Event) api.Score {
		return measure(api.Measure{Voices: [][]api.Event{e}})
	}
	for i, x := range [][2]api.Score{
		{{}, {Parts: []api.Part{}, Bars: []api.Bar{}, Free: []bool{}}},
		{{Parts: []api.Part{{}}}, {Parts: []api.Part{{Measures: []api.Measure{}}}}},
		{measure(api.Measure{}), measure(api.Measure{Voices: [][]api.Event{}})},
		{measure(api.Measure{Voices: [][]api.Event{nil}}), measure(api.Measure{Voices: [][]api.Event{{}}})},
		{events(api.Event{Value: 4}), events(api.Event{Value: 4, Notes: []api.Note{}})},
	} {
		if !score.Same(x[0], x[1]) || !score.Same(x[1], x[0]) || !score.Same(score.Copy(x[0]), x[1]) || !score.Same(score.Copy(x[1]), x[0]) {
			t.Errorf("%d: an empty list and nil differ", i)
		}
	}
}

// changes has changes of each field of the example.
var changes = []func(s *api.Score, e *api.Event){
	func(s *api.Score, _ *api.Event) { s.Key++ },
	func(s *api.Score, _ *api.Event) { s.Meter.Beats++ },
	func(s *api.Score, _ *api.Event) { s.Meter.Unit++ },
	func(s *api.Score, _ *api.Event) { s.Bars[1]++ },
	func(s *api.Score, _ *api.Event) { s.Bars = s.Bars[:1] },
	func(s *api.Score, _ *api.Event) { s.Free[1] = true },
	func(s *api.Score, _ *api.Event) { s.Free = append(s.Free, false) },
	func(s *api.Score, _ *api.Event) { s.Parts[0].Clef++ },
	func(s *api.Score, _ *api.Event) { s.Parts = append(s.Parts, s.Parts[0]) },
	func(s *api.Score, _ *api.Event) { s.Parts[0].Measures = s.Parts[0].Measures[:1] },
	func(s *api.Score, _ *api.Event) { s.Parts[0].Measures[1].Voices = nil },
	func(s *api.Score, _ *api.Event) {
		s.Parts[0].Measures[0].Voices[0] = s.Parts[0].Measures[0].Voices[0][:3]
	},
	func(_ *api.Score, e *api.Event) { e.Value = 4 },
	func(_ *api.Score, e *api.Event) { e.Dot = true },
	func(_ *api.Score, e *api.Event) { e.Triple = true },
	func(_ *api.Score, e *api.Event) { e.Beam = 0 },
	func(_ *api.Score, e *api.Event) { e.Text = "x" },
	func(_ *api.Score, e *api.Event) { e.Notes = e.Notes[:1] },
	func(_ *api.Score, e *api.Event) { e.Notes[1].Tie = false },
	func(_ *api.Score, e *api.Event) { e.Notes[1].Pitch.Step++ },
	func(_ *api.Score, e *api.Event) { e.Notes[1].Pitch.Alter++ },
}

func TestSameOfOtherScores(t *testing.T) {
	var l []api.Score
	for _, change := range changes {
		s := parsed(t, example)
		change(&s, &s.Parts[0].Measures[0].Voices[0][1])
		l = append(l, s)
	}
	l = append(l, parsed(t, example))
	for i, a := range l {
		for j, b := range l {
			if score.Same(a, b) != (i == j) {
				t.Errorf("Same of the changes %d and %d", i, j)
			}
		}
	}
}
