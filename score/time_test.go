package score_test

import (
	"cmp"
	"math/rand"
	"slices"
	"testing"

	"custos/api"
	"custos/score"
)

func TestOnsetsExamples(t *testing.T) {
	first := parsed(t, example).Parts[0].Measures[0].Voices[0]
	for _, x := range []struct {
		l      []api.Event
		onsets []api.Ratio
		total  api.Ratio
	}{
		{nil, nil, api.Ratio{N: 0, D: 1}},
		{[]api.Event{}, nil, api.Ratio{N: 0, D: 1}},
		{first, []api.Ratio{{N: 0, D: 1}, {N: 1, D: 4}, {N: 3, D: 8}, {N: 1, D: 2}}, api.Ratio{N: 3, D: 4}},
		{[]api.Event{{Value: 1, Dot: true}}, []api.Ratio{{N: 0, D: 1}}, api.Ratio{N: 3, D: 2}},
		{[]api.Event{{Value: 16, Triple: true}, {Value: 16, Dot: true, Triple: true}, {Value: 8, Dot: true}}, []api.Ratio{{N: 0, D: 1}, {N: 1, D: 24}, {N: 5, D: 48}}, api.Ratio{N: 7, D: 24}},
		// nothing but the values counts
		{[]api.Event{{Value: 2, Beam: 9, Text: "?", Notes: notes(99, 99)}, {Value: 2, Beam: -1}}, []api.Ratio{{N: 0, D: 1}, {N: 1, D: 2}}, api.Ratio{N: 1, D: 1}},
	} {
		onsets, total, e := score.Onsets(x.l)
		if !slices.Equal(onsets, x.onsets) || total != x.total || e != api.OK {
			t.Errorf("Onsets(%v): %v, %v, %d", x.l, onsets, total, e)
		}
	}
}

func TestOnsetsByDefinition(t *testing.T) {
	r := rand.New(rand.NewSource(64))
	for range 2000 {
		var l []api.Event
		want := []int{0}
		for range r.Intn(score.MaxEvents + 1) {
			e := api.Event{Value: allValues[r.Intn(5)], Dot: r.Intn(2) == 0, Triple: r.Intn(2) == 0}
			l, want = append(l, e), append(want, want[len(want)-1]+units(e))
		}
		onsets, total, e := score.Onsets(l)
		if !slices.Equal(onsets, times(want[:len(l)]...)) || total != time(want[len(l)]) || e != api.OK {
			t.Fatalf("Onsets(%v): %v, %v, %d", l, onsets, total, e)
		}
	}
}

func TestOnsetsErrors(t *testing.T) {
	none := func(l []api.Event, want api.Errno) {
		t.Helper()
		onsets, total, e := score.Onsets(l)
		if len(onsets) != 0 || total != (api.Ratio{}) || e != want {
			t.Errorf("Onsets of %d events: %v, %v, %d", len(l), onsets, total, e)
		}
	}
	most := slices.Repeat([]api.Event{{Value: 1, Dot: true}}, score.MaxEvents)
	if onsets, total, e := score.Onsets(most); len(onsets) != score.MaxEvents || total != (api.Ratio{N: 72, D: 1}) || e != api.OK {
		t.Error("Onsets of as many events as there may be", onsets, total, e)
	}
	none(append(most, api.Event{Value: 1}), api.ErrMany)
	none(make([]api.Event, score.MaxEvents+1), api.ErrMany)
	none(make([]api.Event, 1000), api.ErrMany)
	none(make([]api.Event, score.MaxEvents), api.ErrValue)
	for _, n := range append([]int{-1, 0, 3, 5, 6, 7, 9, 15, 17, 32, 64}, extremes...) {
		none([]api.Event{{Value: api.Value(n)}}, api.ErrValue)
		none([]api.Event{{Value: 4}, {Value: 8}, {Value: api.Value(n), Dot: true, Triple: true}}, api.ErrValue)
	}
}

func TestLengths(t *testing.T) {
	s := parsed(t, "key 0\nmeter 2 4\nbars single* single open* final\npart alto\nmeasure\nvoice c4/8\nvoice r/8\nmeasure\nvoice r/2\nmeasure\nvoice c4/1.\nmeasure\nvoice r/4. r/8\n")
	if l, e := score.Lengths(s); e != api.OK || !slices.Equal(l, []api.Ratio{{N: 1, D: 8}, {N: 1, D: 2}, {N: 3, D: 2}, {N: 1, D: 2}}) {
		t.Error("Lengths", l, e)
	}
	r := rand.New(rand.NewSource(65))
	for range 200 {
		s := tune(r)
		var want []int
		for _, m := range s.Parts[0].Measures {
			want = append(want, length(m.Voices[0]))
		}
		if l, e := score.Lengths(s); e != api.OK || !slices.Equal(l, times(want...)) {
			t.Fatal("Lengths", l, e)
		}
	}
	s, want := wrong(t)
	if l, e := score.Lengths(s); len(l) != 0 || e != want {
		t.Error("Lengths of a score that is not right", l, e)
	}
}

// heard is a sound whose times are in units.
type heard struct{ part, onset, length, step, alter int }

// place is an event of a voice: where it stands, and where it begins.
type place struct {
	e              api.Event
	onset, measure int
	first, last    bool // whether it is the first, and the last one of its voice in its measure
}

// voiceOf returns the events that a part has in the voices with a number.
func voiceOf(s api.Score, p, v int) []place {
	var l []place
	begin := 0
	for m := range s.Bars {
		if voices := s.Parts[p].Measures[m].Voices; v < len(voices) {
			onset := begin
			for i, e := range voices[v] {
				l = append(l, place{e, onset, m, i == 0, i+1 == len(voices[v])})
				onset += units(e)
			}
		}
		begin += length(s.Parts[0].Measures[m].Voices[0])
	}
	return l
}

// continues returns the number of the event by which a tied note of event i goes on, or 0.
func continues(l []place, i int, p api.Pitch) int {
	j := i + 1
	if j == len(l) || l[j].measure > l[i].measure+1 {
		return 0
	}
	for _, n := range l[j].e.Notes {
		if n.Pitch == p {
			return j
		}
	}
	return 0
}

// listen is Sounds, by the document's definition.
func listen(s api.Score) []score.Sound {
	var l []heard
	for p := range s.Parts {
		for v := range 2 {
			events := voiceOf(s, p, v)
			went := map[[3]int]bool{}
			for i, x := range events {
				for _, n := range x.e.Notes {
					if went[[3]int{i, n.Pitch.Step, n.Pitch.Alter}] {
						continue
					}
					h := heard{p, x.onset, 0, n.Pitch.Step, n.Pitch.Alter}
					for j, more := i, true; more; {
						h.length += units(events[j].e)
						more = false
						if k := continues(events, j, n.Pitch); k > 0 && slices.Contains(events[j].e.Notes, api.Note{Pitch: n.Pitch, Tie: true}) {
							j, more = k, true
							went[[3]int{k, n.Pitch.Step, n.Pitch.Alter}] = true
						}
					}
					l = append(l, h)
				}
			}
		}
	}
	slices.SortFunc(l, func(a, b heard) int {
		return slices.Compare([]int{a.onset, a.part, a.step, a.alter, a.length}, []int{b.onset, b.part, b.step, b.alter, b.length})
	})
	var out []score.Sound
	for _, h := range l {
		out = append(out, score.Sound{Part: h.part, Onset: time(h.onset), Length: time(h.length), Pitch: api.Pitch{Step: h.step, Alter: h.alter}})
	}
	return out
}

// sound returns a sound of the first part: times are in sixteenths.
func sound(onset, length, step int) score.Sound {
	return score.Sound{Onset: time(6 * onset), Length: time(6 * length), Pitch: api.Pitch{Step: step}}
}

func TestSoundsExamples(t *testing.T) {
	for name, x := range map[string]struct {
		s    api.Score
		want []score.Sound
	}{
		"rests":                             {piece(t, "single single", "r/2", "r/4 r/4"), nil},
		"a tie":                             {piece(t, "single", "c4~/4 c4/4"), []score.Sound{sound(0, 8, 28)}},
		"no tie":                            {piece(t, "single", "c4/4 c4/4"), []score.Sound{sound(0, 4, 28), sound(4, 4, 28)}},
		"two ties":                          {piece(t, "single", "c4~/4 c4~/8 c4/8"), []score.Sound{sound(0, 8, 28)}},
		"a tie of one note of two":          {piece(t, "single", "c4~+e4/4 c4+e4/4"), []score.Sound{sound(0, 8, 28), sound(0, 4, 30), sound(4, 4, 30)}},
		"a tie over a barline":              {piece(t, "single single", "r/4 c4~/4", "c4/4 r/4"), []score.Sound{sound(4, 8, 28)}},
		"over two barlines":                 {piece(t, "single single single", "r/4 c4~/4", "c4~/2", "c4/4 c4/4"), []score.Sound{sound(4, 16, 28), sound(20, 4, 28)}},
		"no such note in the next measure":  {piece(t, "single single", "c4~/2", "d4/4 c4/4"), []score.Sound{sound(0, 8, 28), sound(8, 4, 29), sound(12, 4, 28)}},
		"another pitch with the same Step":  {piece(t, "single single", "c#4~/2", "c4/2"), []score.Sound{{Onset: time(0), Length: time(48), Pitch: api.Pitch{Step: 28, Alter: 1}}, sound(8, 8, 28)}},
		"a rest in the next measure":        {piece(t, "single single", "c4~/2", "r/2"), []score.Sound{sound(0, 8, 28)}},
		"no next measure":                   {piece(t, "single", "r/4 c4~/4"), []score.Sound{sound(4, 4, 28)}},
		"the second voice":                  {piece(t, "single single", "r/2 | c4~/2", "r/2 | c4/2"), []score.Sound{sound(0, 16, 28)}},
		"not the other voice":               {piece(t, "single single", "c4~/2 | r/2", "r/2 | c4/2"), []score.Sound{sound(0, 8, 28), sound(8, 8, 28)}},
		"no second voice":                   {piece(t, "single single single", "r/2 | c4~/2", "c4/2", "r/2 | c4/2"), []score.Sound{sound(0, 8, 28), sound(8, 8, 28), sound(16, 8, 28)}},
		"both voices with one pitch":        {piece(t, "single", "c4/4 r/4 | c4/4 r/4"), []score.Sound{sound(0, 4, 28), sound(0, 4, 28)}},
		"lengths of one pitch":              {piece(t, "single", "c4/2 | c4/4 r/4"), []score.Sound{sound(0, 4, 28), sound(0, 8, 28)}},
		"ties in both voices":               {piece(t, "single", "c4~/4 c4/4 | c4~/8. c4/16 c4/4"), []score.Sound{sound(0, 4, 28), sound(0, 8, 28), sound(4, 4, 28)}},
		"repeats are not played":            {piece(t, "close close", "c4~/2", "c4/2"), []score.Sound{sound(0, 16, 28)}},
		"a tie does not lead back":          {piece(t, "close", "c4/4 c4~/4"), []score.Sound{sound(0, 4, 28), sound(4, 4, 28)}},
		"free measures have other lengths":  {piece(t, "single* single* single", "c4/16", "d4/8", "e4/2"), []score.Sound{sound(0, 1, 28), sound(1, 2, 29), sound(3, 8, 30)}},
		"steps count before onsets do not":  {piece(t, "single", "e4/4 c4/4"), []score.Sound{sound(0, 4, 30), sound(4, 4, 28)}},
		"a tie into the midst of a measure": {piece(t, "single single", "c4~/2", "c4~/4 c4~/4"), []score.Sound{sound(0, 16, 28)}},
	} {
		if l, e := score.Sounds(x.s); e != api.OK || !slices.Equal(l, x.want) {
			t.Errorf("%s: %v, %d, not %v", name, l, e, x.want)
		}
		if !slices.Equal(listen(x.s), x.want) {
			t.Errorf("%s: by definition %v", name, listen(x.s))
		}
	}
}

// TestSoundsInOrder has sounds that begin together, in parts and voices.
func TestSoundsInOrder(t *testing.T) {
	s := parsed(t, "key 0\nmeter 1 4\nbars final\npart bass\nmeasure\nvoice c4+e#4/4\nvoice db4+e4/4\npart treble\nmeasure\nvoice c3/4\nvoice eb4/8 cb3/8\n")
	want := []score.Sound{
		{Part: 0, Onset: time(0), Length: time(24), Pitch: api.Pitch{Step: 28}},
		{Part: 0, Onset: time(0), Length: time(24), Pitch: api.Pitch{Step: 29, Alter: -1}},
		{Part: 0, Onset: time(0), Length: time(24), Pitch: api.Pitch{Step: 30}},
		{Part: 0, Onset: time(0), Length: time(24), Pitch: api.Pitch{Step: 30, Alter: 1}},
		{Part: 1, Onset: time(0), Length: time(24), Pitch: api.Pitch{Step: 21}},
		{Part: 1, Onset: time(0), Length: time(12), Pitch: api.Pitch{Step: 30, Alter: -1}},
		{Part: 1, Onset: time(12), Length: time(12), Pitch: api.Pitch{Step: 21, Alter: -1}},
	}
	if l, e := score.Sounds(s); e != api.OK || !slices.Equal(l, want) {
		t.Errorf("Sounds: %v, %d", l, e)
	}
}

func TestSoundsByDefinition(t *testing.T) {
	r := rand.New(rand.NewSource(66))
	tied := 0
	for range 600 {
		s := tune(r)
		before := shown(s)
		l, e := score.Sounds(s)
		want := listen(s)
		if e != api.OK || !slices.Equal(l, want) {
			t.Fatalf("Sounds of %s: %v, %d, not %v", before, l, e, want)
		}
		if shown(s) != before {
			t.Fatal("Sounds changes its argument")
		}
		n := 0
		for _, p := range s.Parts {
			for _, m := range p.Measures {
				for _, v := range m.Voices {
					for _, e := range v {
						n += len(e.Notes)
					}
				}
			}
		}
		tied += cmp.Compare(n, len(l))
	}
	if tied < 100 {
		t.Errorf("only %d scores with ties", tied)
	}
}

func TestSoundsOfTheLongestScore(t *testing.T) {
	e := api.Event{Value: api.Whole, Dot: true, Notes: notes(0, 10, 20, 30, 40, 50, 60, 69)}
	for i := range e.Notes {
		e.Notes[i].Tie = i%2 == 0
	}
	s := api.Score{Meter: api.Meter{Beats: 4, Unit: 4}}
	var p api.Part
	p.Clef = api.Alto
	for range api.MaxBars {
		s.Bars, s.Free = append(s.Bars, api.Single), append(s.Free, true)
		l := slices.Repeat([]api.Event{e}, score.MaxEvents)
		p.Measures = append(p.Measures, api.Measure{Voices: [][]api.Event{l, l}})
	}
	s.Parts = []api.Part{p, p, p}
	l, errno := score.Sounds(s)
	// Of the notes with a tie there is one sound in each voice, of the others one in each event.
	if want := 6 * 4 * (1 + api.MaxBars*score.MaxEvents); errno != api.OK || len(l) != want {
		t.Fatalf("%d sounds, error %d, not %d", len(l), errno, want)
	}
	if !slices.Equal(l, listen(s)) {
		t.Error("the sounds are not those of the definition")
	}
	if l[0].Length != (api.Ratio{N: 72 * 64, D: 1}) {
		t.Error("the first sound", l[0])
	}
}

func TestSoundsErrors(t *testing.T) {
	s, want := wrong(t)
	if l, e := score.Sounds(s); len(l) != 0 || e != want {
		t.Error("Sounds of a score that is not right", l, e)
	}
}
