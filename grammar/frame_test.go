package grammar_test

import (
	"slices"
	"testing"

	"custos/api"
	"custos/grammar"
	"custos/score"
)

// invalidFrame is a frame that is not valid.
type invalidFrame struct {
	name  string
	f     grammar.Frame
	errno api.Errno
}

// invalidFrames returns frames that are not valid, each of which has all errors that come after the one that counts.
func invalidFrames() []invalidFrame {
	var l []invalidFrame
	add := func(name string, errno api.Errno, changes ...func(f *grammar.Frame)) {
		f := frame(0, 2, 4, 1)
		for _, change := range changes {
			change(&f)
		}
		l = append(l, invalidFrame{name, f, errno})
	}
	bar := func(f *grammar.Frame) { f.Bar = 6 }
	meter := func(f *grammar.Frame) { f.Meter.Unit = 16 }
	key := func(f *grammar.Frame) { f.Key = -5 }
	clef := func(f *grammar.Frame) { f.Clefs = []api.Clef{api.Treble, 0, api.Bass} }
	none := func(f *grammar.Frame) { f.Clefs = nil }
	add("a barline", api.ErrArg, bar)
	add("no barline", api.ErrArg, func(f *grammar.Frame) { f.Bar = 0 })
	add("a barline below 0", api.ErrArg, func(f *grammar.Frame) { f.Bar = -1 })
	add("a unit", api.ErrMeter, bar, meter)
	add("no beats", api.ErrMeter, bar, func(f *grammar.Frame) { f.Meter.Beats = 0 })
	add("too many beats", api.ErrMeter, func(f *grammar.Frame) { f.Meter.Beats = 10 })
	add("a key", api.ErrKey, bar, meter, key)
	add("a key with too many sharps", api.ErrKey, func(f *grammar.Frame) { f.Key = 5 })
	add("a clef", api.ErrClef, bar, meter, key, clef)
	add("the last clef", api.ErrClef, func(f *grammar.Frame) { f.Clefs = []api.Clef{3, 2, 4} })
	add("no clefs", api.ErrParts, bar, meter, key, none)
	add("an empty list of clefs", api.ErrParts, func(f *grammar.Frame) { f.Clefs = []api.Clef{} })
	add("too many clefs", api.ErrParts, bar, meter, key, func(f *grammar.Frame) { f.Clefs = []api.Clef{0, 1, 2, 3} })
	add("very many clefs", api.ErrParts, func(f *grammar.Frame) { f.Clefs = slices.Repeat([]api.Clef{1}, 1000000) })
	for _, x := range extremes {
		add("an extreme barline", api.ErrArg, func(f *grammar.Frame) { f.Bar = api.Bar(x) })
		add("extreme beats", api.ErrMeter, func(f *grammar.Frame) { f.Meter.Beats = x })
		add("an extreme unit", api.ErrMeter, func(f *grammar.Frame) { f.Meter.Unit = x })
		add("an extreme key", api.ErrKey, func(f *grammar.Frame) { f.Key = x })
		add("an extreme clef", api.ErrClef, func(f *grammar.Frame) { f.Clefs[0] = api.Clef(x) })
	}
	return l
}

func TestCheck(t *testing.T) {
	for _, x := range invalidFrames() {
		if e := grammar.Check(x.f); e != x.errno {
			t.Errorf("%s: error %d, want %d", x.name, e, x.errno)
		}
	}
	if e := grammar.Check(grammar.Frame{}); e != api.ErrParts {
		t.Errorf("the zero frame: error %d", e)
	}
	for _, clefs := range [][]api.Clef{{1}, {2}, {3}, {1, 3}, {3, 2, 1}} {
		for key := -4; key <= 4; key++ {
			for beats := 1; beats <= 9; beats++ {
				for _, unit := range []int{2, 4, 8} {
					for bar := api.Single; bar <= api.Close; bar++ {
						f := grammar.Frame{Clefs: clefs, Key: key, Meter: api.Meter{Beats: beats, Unit: unit}, Bar: bar, Free: beats > 4}
						if e := grammar.Check(f); e != api.OK {
							t.Errorf("%+v: error %d", f, e)
						}
					}
				}
			}
		}
	}
}

func TestFrames(t *testing.T) {
	s := parsed(t, "key -1\nmeter 1 4\nbars double single* close\npart treble\nmeasure\nvoice r/4\nmeasure\nvoice r/2\nmeasure\nvoice r/4\npart bass\nmeasure\nvoice r/4\nmeasure\nvoice r/2\nmeasure\nvoice r/4\n")
	l, e := grammar.Frames(s)
	f := grammar.Frame{Clefs: []api.Clef{api.Treble, api.Bass}, Key: -1, Meter: api.Meter{Beats: 1, Unit: 4}}
	want := []grammar.Frame{f, f, f}
	want[0].Bar, want[1].Bar, want[2].Bar, want[1].Free = api.Double, api.Single, api.Close, true
	if e != api.OK || !same(l, want) {
		t.Errorf("%+v, error %d, want %+v", l, e, want)
	}
	// The lists are new, each one.
	l[0].Clefs[0] = 7
	_ = append(l[1].Clefs[:1], 8)
	if l[2].Clefs[0] != api.Treble || l[2].Clefs[1] != api.Bass || s.Parts[0].Clef != api.Treble {
		t.Error("frames share memory")
	}
}

// TestFramesOfWrongScores has scores that are not right.
func TestFramesOfWrongScores(t *testing.T) {
	for _, x := range []struct {
		errno  api.Errno
		change func(s *api.Score)
	}{
		{api.ErrParts, func(s *api.Score) { s.Parts = nil }},
		{api.ErrParts, func(s *api.Score) { s.Free = nil }},
		{api.ErrParts, func(s *api.Score) { s.Bars[0] = 6 }},
		{api.ErrClef, func(s *api.Score) { s.Parts[0].Clef, s.Key = 4, 5 }},
		{api.ErrKey, func(s *api.Score) { s.Key = 5 }},
		{api.ErrMeter, func(s *api.Score) { s.Meter.Unit = 1 }},
		{api.ErrVoices, func(s *api.Score) { s.Parts[0].Measures[0].Voices = nil }},
		{api.ErrTie, func(s *api.Score) { s.Parts[0].Measures[0].Voices[0][0].Notes[0].Tie = true }},
		{api.ErrSum, func(s *api.Score) { s.Meter.Beats = 2 }},
	} {
		s := parsed(t, "key 0\nmeter 1 4\nbars single\npart treble\nmeasure\nvoice e4/8 f4/8\n")
		x.change(&s)
		if l, e := grammar.Frames(s); e != x.errno || !zero(l) {
			t.Errorf("%v, error %d, want %d", l, e, x.errno)
		}
	}
}

// TestFramesOfScoresThatDoNotFit has scores that are right, which is enough.
func TestFramesOfScoresThatDoNotFit(t *testing.T) {
	s := parsed(t, "key 0\nmeter 1 4\nbars single\npart treble\nmeasure\nvoice c0+d0/4\n")
	f, e := grammar.Frames(s)
	if e != api.OK || len(f) != 1 {
		t.Fatalf("%v, error %d", f, e)
	}
	if back, e := grammar.Join(f, [][]api.Measure{measuresOf(s, 0)}); e != api.OK || !score.Same(back, s) {
		t.Errorf("%+v, error %d", back, e)
	}
}

// rested is a measure with a rest of the length of the meter 2/4.
var rested = api.Measure{Voices: [][]api.Event{{{Value: api.Half}}}}

func TestJoin(t *testing.T) {
	frames := func(n, staves int) []grammar.Frame {
		var l []grammar.Frame
		for range n {
			l = append(l, frame(0, 2, 4, staves))
		}
		return l
	}
	measures := func(n, staves int) [][]api.Measure {
		var l [][]api.Measure
		for range n {
			l = append(l, slices.Repeat([]api.Measure{rested}, staves))
		}
		return l
	}
	change := func(l []grammar.Frame, i int, change func(f *grammar.Frame)) []grammar.Frame {
		change(&l[i])
		return l
	}
	key := func(f *grammar.Frame) { f.Key = 1 }
	meter := func(f *grammar.Frame) { f.Meter.Beats = 3 }
	clef := func(f *grammar.Frame) { f.Clefs[len(f.Clefs)-1] = api.Alto }
	less := func(f *grammar.Frame) { f.Clefs = f.Clefs[1:] }
	wrong := func(l [][]api.Measure, i int) [][]api.Measure {
		l[i] = slices.Clone(l[i])
		l[i][0] = api.Measure{}
		return l
	}
	with := func(l [][]api.Measure, i, staves int) [][]api.Measure {
		l[i] = slices.Repeat([]api.Measure{rested}, staves)
		return l
	}
	for _, x := range []struct {
		name  string
		f     []grammar.Frame
		m     [][]api.Measure
		errno api.Errno
	}{
		{"nothing", nil, nil, api.ErrArg},
		{"no frames", []grammar.Frame{}, measures(1, 1), api.ErrArg},
		{"no measures", frames(1, 1), nil, api.ErrArg},
		{"a measure less", frames(3, 1), measures(2, 1), api.ErrArg},
		{"a measure more", frames(2, 1), measures(3, 1), api.ErrArg},
		{"right", frames(3, 3), measures(3, 3), api.OK},
		{"a part less", frames(2, 2), with(measures(2, 2), 1, 1), api.ErrParts},
		{"a part more", frames(2, 2), with(measures(2, 2), 0, 3), api.ErrParts},
		{"no part", frames(2, 2), with(measures(2, 2), 1, 0), api.ErrParts},
		{"clefs of fewer measures", change(frames(2, 2), 1, less), measures(2, 2), api.ErrParts},
		{"fewer clefs", change(frames(2, 2), 1, less), with(measures(2, 2), 1, 1), api.ErrClef},
		{"more clefs", change(frames(2, 2), 0, less), with(measures(2, 2), 0, 1), api.ErrClef},
		{"another clef", change(frames(2, 2), 1, clef), measures(2, 2), api.ErrClef},
		{"another key", change(frames(3, 1), 2, key), measures(3, 1), api.ErrKey},
		{"another meter", change(frames(3, 1), 1, meter), measures(3, 1), api.ErrMeter},
		{"a part less and another clef", change(frames(2, 2), 1, clef), with(measures(2, 2), 1, 1), api.ErrParts},
		{"another clef and another key", change(change(frames(2, 2), 1, clef), 1, key), measures(2, 2), api.ErrClef},
		{"another key and another meter", change(change(frames(2, 2), 1, meter), 1, key), measures(2, 2), api.ErrKey},
		{"another meter before a part less", change(frames(3, 1), 1, meter), with(measures(3, 1), 2, 0), api.ErrMeter},
		{"another key before another clef", change(change(frames(3, 1), 1, key), 2, clef), measures(3, 1), api.ErrKey},
		{"another meter before a wrong measure", change(frames(2, 1), 1, meter), wrong(measures(2, 1), 0), api.ErrMeter},
		{"a wrong measure", frames(2, 2), wrong(measures(2, 2), 1), api.ErrVoices},
		{"no clefs at all", frames(2, 0), measures(2, 0), api.ErrParts},
		{"too many clefs", frames(2, 4), measures(2, 4), api.ErrParts},
		{"too many frames", frames(65, 1), measures(65, 1), api.ErrParts},
		{"as many frames as there may be", frames(64, 1), measures(64, 1), api.OK},
		{"a wrong clef everywhere", change(frames(1, 1), 0, func(f *grammar.Frame) { f.Clefs[0], f.Key = 9, 9 }), measures(1, 1), api.ErrClef},
		{"a wrong key everywhere", change(frames(1, 1), 0, func(f *grammar.Frame) { f.Key, f.Meter.Unit = 9, 9 }), measures(1, 1), api.ErrKey},
		{"a wrong meter everywhere", change(frames(1, 1), 0, func(f *grammar.Frame) { f.Meter.Unit = 9 }), measures(1, 1), api.ErrMeter},
		{"a wrong barline", change(frames(2, 1), 1, func(f *grammar.Frame) { f.Bar = 6 }), measures(2, 1), api.ErrParts},
		{"a wrong length", change(frames(1, 1), 0, meter), measures(1, 1), api.ErrSum},
		{"a length that is free", change(frames(1, 1), 0, func(f *grammar.Frame) { f.Meter.Beats, f.Free = 3, true }), measures(1, 1), api.OK},
	} {
		s, e := grammar.Join(x.f, x.m)
		if e != x.errno || e != api.OK && !zero(s) {
			t.Errorf("%s: %+v, error %d, want %d", x.name, s, e, x.errno)
		}
	}
}

// TestJoinBack joins what scores were made of.
func TestJoinBack(t *testing.T) {
	for _, s := range fitting(31, 300) {
		f, e := grammar.Frames(s)
		if e != api.OK || len(f) != len(s.Bars) {
			t.Fatalf("%d frames, error %d", len(f), e)
		}
		var m [][]api.Measure
		for i := range f {
			if e := grammar.Check(f[i]); e != api.OK {
				t.Fatalf("%+v: error %d", f[i], e)
			}
			m = append(m, measuresOf(s, i))
		}
		was := score.Copy(s)
		back, e := grammar.Join(f, m)
		if e != api.OK || !score.Same(back, s) {
			t.Fatalf("error %d: %+v\nwant\n%+v", e, back, s)
		}
		scribble(back)
		again, _ := grammar.Frames(s)
		if !score.Same(s, was) || !same(f, again) {
			t.Fatal("an argument was changed, or shares memory with the result")
		}
	}
}

// scribble changes all elements of the lists of a score.
func scribble(s api.Score) {
	for i := range s.Bars {
		s.Bars[i], s.Free[i] = 7, !s.Free[i]
	}
	for _, p := range s.Parts {
		for _, m := range p.Measures {
			for _, l := range m.Voices {
				for _, e := range l {
					clear(e.Notes)
				}
				clear(l)
			}
			clear(m.Voices)
		}
		clear(p.Measures)
	}
	clear(s.Parts)
}
