package score_test

import (
	"math/rand"
	"regexp"
	"slices"
	"testing"

	"custos/api"
	"custos/score"
)

// prefixOfGroups matches what a voice may begin with, wholeGroups a voice: n is an event without a beam, a, b and c are eighths and x, y and z sixteenths under one.
var (
	prefixOfGroups = regexp.MustCompile(`^(?:n|ab*c|xy*z)*(?:ab*|xy*)?$`)
	wholeGroups    = regexp.MustCompile(`^(?:n|ab*c|xy*z)*$`)
	rightText      = regexp.MustCompile(`^(?:[a-z]{1,4}|[a-z]{1,3}-)$`)
)

// judge is Check, by the document's definition.
func judge(s api.Score) (score.Spot, api.Errno) {
	if at, e := judgeFrame(s); e != api.OK {
		return at, e
	}
	if at, e := judgeVoices(s); e != api.OK {
		return at, e
	}
	for _, fault := range eventFaults {
		for p := range s.Parts {
			for m := range s.Bars {
				for v, l := range s.Parts[p].Measures[m].Voices {
					for i := range l {
						if fault.is(l, v, i) {
							return score.Spot{Part: p, Measure: m, Voice: v, Event: i}, fault.e
						}
					}
				}
			}
		}
	}
	return judgeSums(s)
}

// judgeFrame looks for errors from ErrParts to ErrMeter.
func judgeFrame(s api.Score) (score.Spot, api.Errno) {
	if len(s.Parts) == 0 || len(s.Parts) > 3 || len(s.Bars) == 0 || len(s.Bars) > 64 || len(s.Free) != len(s.Bars) {
		return score.Spot{}, api.ErrParts
	}
	for p := range s.Parts {
		if len(s.Parts[p].Measures) != len(s.Bars) {
			return score.Spot{Part: p}, api.ErrParts
		}
	}
	for m, b := range s.Bars {
		if b < 1 || b > 5 {
			return score.Spot{Measure: m}, api.ErrParts
		}
	}
	for p := range s.Parts {
		if c := s.Parts[p].Clef; c < 1 || c > 3 {
			return score.Spot{Part: p}, api.ErrClef
		}
	}
	if s.Key < -4 || s.Key > 4 {
		return score.Spot{}, api.ErrKey
	}
	if u := s.Meter.Unit; s.Meter.Beats < 1 || s.Meter.Beats > 9 || u != 2 && u != 4 && u != 8 {
		return score.Spot{}, api.ErrMeter
	}
	return score.Spot{}, api.OK
}

// judgeVoices looks for ErrVoices.
func judgeVoices(s api.Score) (score.Spot, api.Errno) {
	for p := range s.Parts {
		for m := range s.Bars {
			if n := len(s.Parts[p].Measures[m].Voices); n < 1 || n > 2 {
				return score.Spot{Part: p, Measure: m}, api.ErrVoices
			}
		}
	}
	for p := range s.Parts {
		for m := range s.Bars {
			for v, l := range s.Parts[p].Measures[m].Voices {
				if len(l) < 1 || len(l) > 48 {
					return score.Spot{Part: p, Measure: m, Voice: v}, api.ErrVoices
				}
			}
		}
	}
	return score.Spot{}, api.OK
}

// eventFaults says of each event of a voice, whose number is v, whether it has a fault, if the events before it have none.
var eventFaults = []struct {
	e  api.Errno
	is func(l []api.Event, v, i int) bool
}{
	{api.ErrValue, func(l []api.Event, v, i int) bool { return !slices.Contains(allValues, l[i].Value) }},
	{api.ErrChord, func(l []api.Event, v, i int) bool { return len(l[i].Notes) > 8 }},
	{api.ErrChord, func(l []api.Event, v, i int) bool {
		var steps []int
		for _, n := range l[i].Notes {
			steps = append(steps, n.Pitch.Step)
		}
		return !slices.IsSorted(steps) || len(slices.Compact(steps)) != len(l[i].Notes)
	}},
	{api.ErrPitch, func(l []api.Event, v, i int) bool {
		for _, n := range l[i].Notes {
			if n.Pitch.Step < 0 || n.Pitch.Step > 69 || n.Pitch.Alter < -1 || n.Pitch.Alter > 1 {
				return true
			}
		}
		return false
	}},
	{api.ErrBeam, func(l []api.Event, v, i int) bool { return l[i].Beam < 0 || l[i].Beam > 3 }},
	{api.ErrBeam, func(l []api.Event, v, i int) bool {
		return l[i].Beam != 0 && (len(l[i].Notes) == 0 || l[i].Value < 8)
	}},
	{api.ErrBeam, func(l []api.Event, v, i int) bool {
		kinds := ""
		for _, e := range l[:i+1] {
			switch {
			case e.Beam == 0:
				kinds += "n"
			case e.Value == 8:
				kinds += " abc"[e.Beam : e.Beam+1]
			default:
				kinds += " xyz"[e.Beam : e.Beam+1]
			}
		}
		return !prefixOfGroups.MatchString(kinds) || i+1 == len(l) && !wholeGroups.MatchString(kinds)
	}},
	{api.ErrTie, func(l []api.Event, v, i int) bool {
		for _, n := range l[i].Notes {
			if n.Tie && i+1 < len(l) && !slices.Contains(l[i+1].Notes, api.Note{Pitch: n.Pitch}) && !slices.Contains(l[i+1].Notes, n) {
				return true
			}
		}
		return false
	}},
	{api.ErrText, func(l []api.Event, v, i int) bool { return l[i].Text != "" && !rightText.MatchString(l[i].Text) }},
	{api.ErrText, func(l []api.Event, v, i int) bool { return l[i].Text != "" && len(l[i].Notes) == 0 }},
	{api.ErrText, func(l []api.Event, v, i int) bool { return l[i].Text != "" && v == 1 }},
}

// judgeSums looks for ErrSum.
func judgeSums(s api.Score) (score.Spot, api.Errno) {
	for _, free := range []bool{false, true} {
		for p := range s.Parts {
			for m := range s.Bars {
				want := whole * s.Meter.Beats / s.Meter.Unit
				if free {
					want = length(s.Parts[0].Measures[m].Voices[0])
				}
				for v, l := range s.Parts[p].Measures[m].Voices {
					if s.Free[m] == free && length(l) != want {
						return score.Spot{Part: p, Measure: m, Voice: v}, api.ErrSum
					}
				}
			}
		}
	}
	return score.Spot{}, api.OK
}

// flaw spoils a score of which all parts have two measures of two voices with two quarters each: e is an event, and at its spot.
type flaw struct {
	name  string
	e     api.Errno
	spoil func(s *api.Score, at score.Spot, e *api.Event)
	spot  func(at score.Spot) score.Spot // the spot that Check tells, for the spot of an event
}

func zeroSpot(score.Spot) score.Spot     { return score.Spot{} }
func partSpot(at score.Spot) score.Spot  { return score.Spot{Part: at.Part} }
func barSpot(at score.Spot) score.Spot   { return score.Spot{Measure: at.Measure} }
func eventSpot(at score.Spot) score.Spot { return at }
func measureSpot(at score.Spot) score.Spot {
	return score.Spot{Part: at.Part, Measure: at.Measure}
}
func voiceSpot(at score.Spot) score.Spot {
	return score.Spot{Part: at.Part, Measure: at.Measure, Voice: at.Voice}
}

// flaws has all faults that the chapter names, in its order.
var flaws = []flaw{
	{"no parts", api.ErrParts, func(s *api.Score, _ score.Spot, _ *api.Event) { s.Parts = nil }, zeroSpot},
	{"too many parts", api.ErrParts, func(s *api.Score, _ score.Spot, _ *api.Event) { s.Parts = append(s.Parts, s.Parts[0], s.Parts[0]) }, zeroSpot},
	{"no bars", api.ErrParts, func(s *api.Score, _ score.Spot, _ *api.Event) { s.Bars = nil }, zeroSpot},
	{"too many bars", api.ErrParts, func(s *api.Score, _ score.Spot, _ *api.Event) { s.Bars, s.Free = make([]api.Bar, 65), make([]bool, 65) }, zeroSpot},
	{"no Free", api.ErrParts, func(s *api.Score, _ score.Spot, _ *api.Event) { s.Free = nil }, zeroSpot},
	{"another Free", api.ErrParts, func(s *api.Score, _ score.Spot, _ *api.Event) { s.Free = make([]bool, 3) }, zeroSpot},
	{"too many measures", api.ErrParts, func(s *api.Score, at score.Spot, _ *api.Event) {
		s.Parts[at.Part].Measures = append(s.Parts[at.Part].Measures, api.Measure{})
	}, partSpot},
	{"no bar", api.ErrParts, func(s *api.Score, at score.Spot, _ *api.Event) { s.Bars[at.Measure] = 0 }, barSpot},
	{"bar 6", api.ErrParts, func(s *api.Score, at score.Spot, _ *api.Event) { s.Bars[at.Measure] = 6 }, barSpot},
	{"no clef", api.ErrClef, func(s *api.Score, at score.Spot, _ *api.Event) { s.Parts[at.Part].Clef = 0 }, partSpot},
	{"clef 4", api.ErrClef, func(s *api.Score, at score.Spot, _ *api.Event) { s.Parts[at.Part].Clef = 4 }, partSpot},
	{"key 5", api.ErrKey, func(s *api.Score, _ score.Spot, _ *api.Event) { s.Key = 5 }, zeroSpot},
	{"key -5", api.ErrKey, func(s *api.Score, _ score.Spot, _ *api.Event) { s.Key = -5 }, zeroSpot},
	{"no beats", api.ErrMeter, func(s *api.Score, _ score.Spot, _ *api.Event) { s.Meter.Beats = 0 }, zeroSpot},
	{"ten beats", api.ErrMeter, func(s *api.Score, _ score.Spot, _ *api.Event) { s.Meter.Beats = 10 }, zeroSpot},
	{"unit 16", api.ErrMeter, func(s *api.Score, _ score.Spot, _ *api.Event) { s.Meter.Unit = 16 }, zeroSpot},
	{"no voice", api.ErrVoices, func(s *api.Score, at score.Spot, _ *api.Event) { s.Parts[at.Part].Measures[at.Measure].Voices = nil }, measureSpot},
	{"three voices", api.ErrVoices, func(s *api.Score, at score.Spot, _ *api.Event) {
		m := &s.Parts[at.Part].Measures[at.Measure]
		m.Voices = append(m.Voices, m.Voices[0])
	}, measureSpot},
	{"no event", api.ErrVoices, func(s *api.Score, at score.Spot, _ *api.Event) {
		s.Parts[at.Part].Measures[at.Measure].Voices[at.Voice] = nil
	}, voiceSpot},
	{"too many events", api.ErrVoices, func(s *api.Score, at score.Spot, _ *api.Event) {
		s.Parts[at.Part].Measures[at.Measure].Voices[at.Voice] = make([]api.Event, 49)
	}, voiceSpot},
	{"no value", api.ErrValue, func(_ *api.Score, _ score.Spot, e *api.Event) { e.Value = 0 }, eventSpot},
	{"value 32", api.ErrValue, func(_ *api.Score, _ score.Spot, e *api.Event) { e.Value = 32 }, eventSpot},
	{"too many notes", api.ErrChord, func(_ *api.Score, _ score.Spot, e *api.Event) { e.Notes = notes(0, 1, 2, 3, 4, 5, 6, 7, 8) }, eventSpot},
	{"equal Steps", api.ErrChord, func(_ *api.Score, _ score.Spot, e *api.Event) {
		e.Notes = notes(20, 28, 28)
		e.Notes[1].Pitch.Alter = -1
	}, eventSpot},
	{"decreasing Steps", api.ErrChord, func(_ *api.Score, _ score.Spot, e *api.Event) { e.Notes = notes(28, 27) }, eventSpot},
	{"Step -1", api.ErrPitch, func(_ *api.Score, _ score.Spot, e *api.Event) { e.Notes = notes(-1, 28) }, eventSpot},
	{"Step 70", api.ErrPitch, func(_ *api.Score, _ score.Spot, e *api.Event) { e.Notes = notes(28, 70) }, eventSpot},
	{"Alter 2", api.ErrPitch, func(_ *api.Score, _ score.Spot, e *api.Event) { e.Notes[1].Pitch.Alter = 2 }, eventSpot},
	{"Alter -2", api.ErrPitch, func(_ *api.Score, _ score.Spot, e *api.Event) { e.Notes[1].Pitch.Alter = -2 }, eventSpot},
	{"beam -1", api.ErrBeam, func(_ *api.Score, _ score.Spot, e *api.Event) { e.Beam = -1 }, eventSpot},
	{"beam 4", api.ErrBeam, func(_ *api.Score, _ score.Spot, e *api.Event) { e.Beam = 4 }, eventSpot},
	{"a beam of a quarter", api.ErrBeam, func(_ *api.Score, _ score.Spot, e *api.Event) { e.Beam = api.BeamBegin }, eventSpot},
	{"a beam of a rest", api.ErrBeam, func(_ *api.Score, _ score.Spot, e *api.Event) {
		e.Value, e.Beam, e.Notes = api.Eighth, api.BeamBegin, nil
	}, eventSpot},
	{"a beam that ends", api.ErrBeam, func(_ *api.Score, _ score.Spot, e *api.Event) { e.Value, e.Beam = api.Eighth, api.BeamEnd }, eventSpot},
	{"a beam that goes on", api.ErrBeam, func(_ *api.Score, _ score.Spot, e *api.Event) { e.Value, e.Beam = api.Sixteenth, api.BeamIn }, eventSpot},
	{"a tie", api.ErrTie, func(s *api.Score, at score.Spot, _ *api.Event) {
		s.Parts[at.Part].Measures[at.Measure].Voices[at.Voice][0].Notes[0].Tie = true
	}, voiceSpot},
	{"a text that is none", api.ErrText, func(_ *api.Score, _ score.Spot, e *api.Event) { e.Text = "-" }, eventSpot},
	{"the text of a rest", api.ErrText, func(_ *api.Score, _ score.Spot, e *api.Event) { e.Text, e.Notes = "la", nil }, eventSpot},
	{"a voice that is too long", api.ErrSum, func(_ *api.Score, _ score.Spot, e *api.Event) { e.Dot = true }, voiceSpot},
	{"a voice that is too short", api.ErrSum, func(_ *api.Score, _ score.Spot, e *api.Event) { e.Triple = true }, voiceSpot},
}

// notes returns notes with some Steps.
func notes(steps ...int) []api.Note {
	var l []api.Note
	for _, step := range steps {
		l = append(l, api.Note{Pitch: api.Pitch{Step: step}})
	}
	return l
}

// plain returns a right score of two parts with two measures of two voices with two events each.
func plain(t *testing.T) api.Score {
	t.Helper()
	part := "measure\nvoice c4+e4/4 d4+f4/4\nvoice c3+e3/4 d3+f3/4\n"
	return parsed(t, "key 1\nmeter 2 4\nbars single final\npart alto\n"+part+part+"part bass\n"+part+part)
}

// spots returns the spots of all events of such a score.
func spots() []score.Spot {
	var l []score.Spot
	for i := range 16 {
		l = append(l, score.Spot{Part: i / 8, Measure: i / 4 % 2, Voice: i / 2 % 2, Event: i % 2})
	}
	return l
}

// spoil puts a flaw at a spot.
func (f flaw) at(s *api.Score, at score.Spot) {
	f.spoil(s, at, &s.Parts[at.Part].Measures[at.Measure].Voices[at.Voice][at.Event])
}

// wrongAt checks that Check tells an error at a spot.
func wrongAt(t *testing.T, name string, s api.Score, at score.Spot, e api.Errno) {
	t.Helper()
	before := shown(s)
	if got, errno := score.Check(s); got != at || errno != e {
		t.Errorf("%s: Check: %v, %d, not %v, %d", name, got, errno, at, e)
	}
	if want, errno := judge(s); want != at || errno != e {
		t.Errorf("%s: the definition: %v, %d, not %v, %d", name, want, errno, at, e)
	}
	if shown(s) != before {
		t.Errorf("%s: Check changes its argument", name)
	}
}

func TestCheckOfEachFlaw(t *testing.T) {
	wrongAt(t, "no flaw", plain(t), score.Spot{}, api.OK)
	wrongAt(t, "a zero value", api.Score{}, score.Spot{}, api.ErrParts)
	for _, f := range flaws {
		for _, at := range spots() {
			s := plain(t)
			f.at(&s, at)
			wrongAt(t, f.name, s, f.spot(at), f.e)
		}
	}
}

// TestCheckOfTwoFlaws puts the same flaw at two spots: the first one counts.
func TestCheckOfTwoFlaws(t *testing.T) {
	for _, f := range flaws {
		for _, first := range spots() {
			for _, second := range spots() {
				a, b := f.spot(first), f.spot(second)
				if first == second || a == b || shown(a) > shown(b) {
					continue
				}
				s := plain(t)
				f.at(&s, second)
				f.at(&s, first)
				wrongAt(t, f.name, s, a, f.e)
			}
		}
	}
}

// TestCheckOfFlawsInOrder puts two flaws into a score: the one that is named first counts, also at a later spot.
func TestCheckOfFlawsInOrder(t *testing.T) {
	early, late := score.Spot{Event: 1}, score.Spot{Part: 1, Measure: 1, Voice: 1}
	for i, f := range flaws {
		for _, g := range flaws[i+1:] {
			if f.e == g.e {
				continue
			}
			s := plain(t)
			g.at(&s, early)
			if len(s.Parts) == 0 || len(s.Bars) == 0 || len(s.Parts[1].Measures) < 2 {
				continue
			}
			f.at(&s, late)
			wrongAt(t, f.name+" and "+g.name, s, f.spot(late), f.e)
		}
	}
}

// TestCheckOfFaultsOfOneError: faults that are named first are looked for at all spots before the others.
func TestCheckOfFaultsOfOneError(t *testing.T) {
	byName := func(name string) flaw {
		return flaws[slices.IndexFunc(flaws, func(f flaw) bool { return f.name == name })]
	}
	early, late := score.Spot{Event: 1}, score.Spot{Part: 1, Measure: 1, Event: 0}
	for _, x := range [][2]string{
		{"no Free", "too many measures"}, {"too many measures", "no bar"}, {"too many measures", "bar 6"},
		{"three voices", "no event"}, {"no voice", "too many events"},
		{"too many notes", "equal Steps"}, {"too many notes", "decreasing Steps"},
		{"beam 4", "a beam of a quarter"}, {"beam -1", "a beam of a rest"}, {"beam 4", "a beam that ends"},
		{"a beam of a quarter", "a beam that goes on"}, {"a beam of a rest", "a beam that ends"},
		{"a text that is none", "the text of a rest"},
	} {
		f, g := byName(x[0]), byName(x[1])
		s := plain(t)
		f.at(&s, late)
		g.at(&s, early)
		wrongAt(t, x[0]+", "+x[1], s, f.spot(late), f.e)
	}
	s := plain(t)
	s.Parts[0].Measures[0].Voices[1][0].Text = "la"
	wrongAt(t, "a text in the second voice", s, score.Spot{Voice: 1}, api.ErrText)
	byName("the text of a rest").at(&s, late)
	wrongAt(t, "that of a rest counts first", s, late, api.ErrText)
	s.Parts[1].Measures[1].Voices[1][1].Text = "a-b"
	wrongAt(t, "one that is none counts first", s, score.Spot{Part: 1, Measure: 1, Voice: 1, Event: 1}, api.ErrText)
}

func TestCheckOfSums(t *testing.T) {
	s := plain(t)
	s.Free[0] = true
	wrongAt(t, "a free measure with the length of the meter", s, score.Spot{}, api.OK)
	s.Parts[0].Measures[0].Voices[0][1].Dot = true
	wrongAt(t, "the second voice differs from the first one", s, score.Spot{Voice: 1}, api.ErrSum)
	s.Parts[0].Measures[0].Voices[1][0].Dot = true
	wrongAt(t, "another part differs from the first one", s, score.Spot{Part: 1}, api.ErrSum)
	s.Parts[1].Measures[1].Voices[1][0].Dot = true
	wrongAt(t, "measures that are not free count first", s, score.Spot{Part: 1, Measure: 1, Voice: 1}, api.ErrSum)
	s.Parts[1].Measures[1].Voices[1][0].Dot = false
	for v := range 2 {
		s.Parts[1].Measures[0].Voices[v][v].Dot = true
	}
	wrongAt(t, "all voices of a free measure are alike", s, score.Spot{}, api.OK)
	s.Free[0] = false
	wrongAt(t, "it is not free", s, score.Spot{}, api.ErrSum)
}

func TestCheckOfLimits(t *testing.T) {
	full := api.Event{Value: api.Sixteenth, Notes: notes(0, 10, 20, 30, 40, 50, 60, 69)}
	var most []api.Event
	for range score.MaxEvents {
		most = append(most, full)
	}
	s := api.Score{Key: -4, Meter: api.Meter{Beats: 9, Unit: 2}, Bars: make([]api.Bar, api.MaxBars), Free: make([]bool, api.MaxBars)}
	for m := range s.Bars {
		s.Bars[m], s.Free[m] = api.Close, true
	}
	for range api.MaxParts {
		p := api.Part{Clef: api.Bass}
		for range s.Bars {
			p.Measures = append(p.Measures, api.Measure{Voices: [][]api.Event{most, most}})
		}
		s.Parts = append(s.Parts, p)
	}
	wrongAt(t, "as much as there may be", s, score.Spot{}, api.OK)
	last := score.Spot{Part: 2, Measure: 63, Voice: 1}
	s.Parts[2].Measures[63].Voices[1] = most[:47]
	wrongAt(t, "the last voice is too short", s, last, api.ErrSum)
	s.Parts[2].Measures[63].Voices[1] = append(slices.Clone(most), full)
	wrongAt(t, "the last voice has too many events", s, last, api.ErrVoices)
	for _, n := range extremes {
		for i, change := range []func(s *api.Score, e *api.Event){
			func(s *api.Score, _ *api.Event) { s.Key = n },
			func(s *api.Score, _ *api.Event) { s.Meter.Beats = n },
			func(s *api.Score, _ *api.Event) { s.Meter.Unit = n },
			func(s *api.Score, _ *api.Event) { s.Bars[1] = api.Bar(n) },
			func(s *api.Score, _ *api.Event) { s.Parts[0].Clef = api.Clef(n) },
			func(_ *api.Score, e *api.Event) { e.Value = api.Value(n) },
			func(_ *api.Score, e *api.Event) { e.Beam = api.Beam(n) },
			func(_ *api.Score, e *api.Event) { e.Notes[1].Pitch.Step = n },
			func(_ *api.Score, e *api.Event) { e.Notes[1].Pitch.Alter = n },
		} {
			s := parsed(t, example)
			change(&s, &s.Parts[0].Measures[0].Voices[0][1])
			at, e := judge(s)
			if e == api.OK {
				t.Error("no error", i, n)
			}
			wrongAt(t, "an extreme number", s, at, e)
		}
	}
}

// TestCheckOfTexts tries all texts of at most three bytes of some kinds, and some others.
func TestCheckOfTexts(t *testing.T) {
	l := []string{""}
	for k := 0; k < len(l); k++ {
		if len(l[k]) < 3 {
			for _, c := range "amz-`{A_ é" {
				l = append(l, l[k]+string(c))
			}
		}
	}
	l = append(l, "abcd", "abc-", "abcd-", "abcde", "ab--", "a-b-", "-abc", "a\xff", "\xff", "a\x00", "é", "éa", "ab\n", "ab ")
	for _, text := range l {
		s := piece(t, "single", "c4/2")
		s.Parts[0].Measures[0].Voices[0][0].Text = text
		want := api.OK
		if text != "" && !rightText.MatchString(text) {
			want = api.ErrText
		}
		if at, e := score.Check(s); at != (score.Spot{}) || e != want {
			t.Errorf("the text %q: %v, %d", text, at, e)
		}
	}
}

// TestCheckOfBeams tries all voices of four events of some kinds.
func TestCheckOfBeams(t *testing.T) {
	var kinds []api.Event
	for beam := range api.Beam(4) {
		for _, v := range []api.Value{api.Eighth, api.Sixteenth} {
			kinds = append(kinds, api.Event{Value: v, Beam: beam, Notes: notes(28)})
		}
	}
	kinds = append(kinds, api.Event{Value: api.Eighth}, api.Event{Value: api.Quarter, Notes: notes(28)})
	n := len(kinds)
	for i := range n * n * n * n {
		l := []api.Event{kinds[i%n], kinds[i/n%n], kinds[i/n/n%n], kinds[i/n/n/n]}
		s := api.Score{Meter: api.Meter{Beats: 2, Unit: 4}, Bars: []api.Bar{1}, Free: []bool{true}, Parts: []api.Part{{Clef: 1, Measures: []api.Measure{{Voices: [][]api.Event{l}}}}}}
		at, e := score.Check(s)
		if want, f := judge(s); at != want || e != f {
			t.Fatalf("Check of %+v: %v, %d, not %v, %d", l, at, e, want, f)
		}
	}
}

// spoilAnything changes something of a score.
func spoilAnything(r *rand.Rand, s *api.Score) {
	p := r.Intn(len(s.Parts))
	m := r.Intn(len(s.Bars))
	if len(s.Parts[p].Measures) <= m || len(s.Parts[p].Measures[m].Voices) == 0 {
		return
	}
	v := r.Intn(len(s.Parts[p].Measures[m].Voices))
	l := s.Parts[p].Measures[m].Voices[v]
	if len(l) == 0 {
		return
	}
	e := &l[r.Intn(len(l))]
	switch r.Intn(24) {
	case 0:
		s.Parts[p].Measures = s.Parts[p].Measures[:m]
	case 1:
		s.Parts[p].Measures[m].Voices = s.Parts[p].Measures[m].Voices[:v]
	case 2:
		s.Parts[p].Measures[m].Voices[v] = l[:r.Intn(len(l))]
	case 3:
		s.Bars[m] = api.Bar(r.Intn(7))
	case 4:
		s.Free[m] = !s.Free[m]
	case 5:
		s.Parts[p].Clef = api.Clef(r.Intn(5))
	case 6:
		s.Key = r.Intn(11) - 5
	case 7:
		s.Meter.Beats = r.Intn(11)
	case 8, 9:
		e.Value = api.Value(r.Intn(17))
	case 10, 11:
		e.Dot = !e.Dot
	case 12, 13, 14, 15:
		e.Beam = api.Beam(r.Intn(6) - 1)
	case 16, 17:
		e.Text = []string{"", "a", "a-", "-", "abcde", "A"}[r.Intn(6)]
	case 18:
		e.Notes = nil
	default:
		spoilNote(r, e)
	}
}

// spoilNote changes something of a note.
func spoilNote(r *rand.Rand, e *api.Event) {
	if len(e.Notes) == 0 {
		e.Notes = notes(28)
	}
	n := &e.Notes[r.Intn(len(e.Notes))]
	switch r.Intn(5) {
	case 0:
		n.Pitch.Step += r.Intn(5) - 2
	case 1:
		n.Pitch.Alter = r.Intn(5) - 2
	default:
		n.Tie = !n.Tie
	}
}

func TestCheckByDefinition(t *testing.T) {
	r := rand.New(rand.NewSource(63))
	count := map[api.Errno]int{}
	for range 6000 {
		s := tune(r)
		if at, e := score.Check(s); at != (score.Spot{}) || e != api.OK {
			t.Fatalf("Check of a right score: %v, %d: %s", at, e, shown(s))
		}
		for range 1 + r.Intn(3) {
			spoilAnything(r, &s)
		}
		at, e := score.Check(s)
		if want, f := judge(s); at != want || e != f {
			t.Fatalf("Check: %v, %d, not %v, %d: %s", at, e, want, f, shown(s))
		}
		count[e]++
	}
	for _, e := range []api.Errno{api.OK, api.ErrParts, api.ErrClef, api.ErrKey, api.ErrMeter, api.ErrVoices, api.ErrValue, api.ErrChord, api.ErrPitch, api.ErrBeam, api.ErrTie, api.ErrText, api.ErrSum} {
		if count[e] < 20 {
			t.Errorf("error %d occurs %d times only", e, count[e])
		}
	}
}
