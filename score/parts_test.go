package score_test

import (
	"math/rand"
	"slices"
	"testing"

	"custos/api"
	"custos/score"
	"custos/tone"
)

// intervals returns intervals that lead from keys to keys.
func intervals() []tone.Interval {
	return []tone.Interval{{}, {Steps: 2, Semis: 4}, {Steps: 4, Semis: 7}, {Steps: -4, Semis: -7}, {Steps: 1, Semis: 2}, {Steps: -1, Semis: -2}, {Steps: 7, Semis: 12}, {Steps: -14, Semis: -24}, {Steps: 3, Semis: 5}, {Steps: 2, Semis: 3}, {Steps: -5, Semis: -9}, {Steps: 1, Semis: 1}, {Semis: 1}}
}

func TestTransposeExample(t *testing.T) {
	s := parsed(t, "key 1\nmeter 2 4\nbars single\npart treble\nmeasure\nvoice e4/8( f#4/8) r/4\n")
	want := "key 3\nmeter 2 4\nbars single\npart treble\nmeasure\nvoice f#4/8( g#4/8) r/4\n"
	u, e := score.Transpose(s, tone.Interval{Steps: 1, Semis: 2})
	if e != api.OK || textOf(u) != want {
		t.Errorf("Transpose: %q, %d", textOf(u), e)
	}
}

// TestTranspose compares with the functions of layer 5, note by note.
func TestTranspose(t *testing.T) {
	r := rand.New(rand.NewSource(68))
	count := map[api.Errno]int{}
	for range 400 {
		s := tune(r)
		before := shown(s)
		for _, i := range intervals() {
			want := score.Copy(s)
			var e api.Errno
			want.Key, e = tone.Key(s.Key, i)
			for _, p := range want.Parts {
				for _, m := range p.Measures {
					for _, l := range m.Voices {
						for _, x := range l {
							for n := 0; n < len(x.Notes) && e == api.OK; n++ {
								x.Notes[n].Pitch, e = tone.Transpose(x.Notes[n].Pitch, i)
							}
						}
					}
				}
			}
			if e != api.OK {
				want = api.Score{}
			}
			count[e]++
			u, f := score.Transpose(s, i)
			if f != e || shown(u) != shown(want) {
				t.Fatalf("Transpose(%s, %v): %s, %d, not %d", before, i, shown(u), f, e)
			}
			if e == api.OK {
				transposed(t, s, u, i)
			}
			scribble(u)
			if shown(s) != before {
				t.Fatal("Transpose shares memory with its argument")
			}
		}
	}
	if count[api.OK] < 100 || count[api.ErrKey] < 100 || count[api.ErrPitch] < 100 {
		t.Error("what occurs", count)
	}
}

// transposed checks what the document says of a transposed score.
func transposed(t *testing.T, s, u api.Score, i tone.Interval) {
	t.Helper()
	if at, e := score.Check(u); at != (score.Spot{}) || e != api.OK {
		t.Fatalf("a transposed score is not right: %v, %d", at, e)
	}
	if back, e := score.Transpose(u, tone.Interval{Steps: -i.Steps, Semis: -i.Semis}); e != api.OK || !score.Same(back, s) {
		t.Fatalf("transposition by %v and back: %d", i, e)
	}
	a, _ := score.Lengths(s)
	b, _ := score.Lengths(u)
	c, _ := score.Play(s)
	d, _ := score.Play(u)
	if !slices.Equal(a, b) || !slices.Equal(c, d) {
		t.Fatal("transposition changes the lengths, or the order of play")
	}
	x, _ := score.Sounds(s)
	y, _ := score.Sounds(u)
	if len(x) != len(y) {
		t.Fatalf("transposition makes %d sounds of %d", len(y), len(x))
	}
	for k := range x {
		higher, e := tone.Transpose(x[k].Pitch, i)
		if e != api.OK || y[k].Part != x[k].Part || y[k].Onset != x[k].Onset || y[k].Length != x[k].Length || y[k].Pitch != higher {
			t.Fatalf("transposition by %v makes %v of %v", i, y[k], x[k])
		}
	}
}

func TestTransposeErrors(t *testing.T) {
	none := func(name string, s api.Score, i tone.Interval, want api.Errno) {
		t.Helper()
		if u, e := score.Transpose(s, i); shown(u) != shown(api.Score{}) || e != want {
			t.Errorf("%s: Transpose: %s, %d, not %d", name, shown(u), e, want)
		}
	}
	s, e := wrong(t)
	none("a score that is not right", s, tone.Interval{Steps: 201}, e)
	s = piece(t, "single single", "r/2", "c4/4 a4+b#4/4")
	third := tone.Interval{Steps: 2, Semis: 4}
	for _, n := range append([]int{-201, 201}, extremes...) {
		none("too far", s, tone.Interval{Steps: n}, api.ErrRange)
		none("too far", s, tone.Interval{Semis: n}, api.ErrRange)
	}
	none("no key", s, tone.Interval{Steps: 1, Semis: 1}, api.ErrKey)
	none("no key, and no pitch", s, tone.Interval{Steps: 200, Semis: 200}, api.ErrKey)
	none("no pitch", s, third, api.ErrPitch)
	none("no pitch", s, tone.Interval{Steps: -35, Semis: -60}, api.ErrPitch)
	if u, e := score.Transpose(s, tone.Interval{Steps: -28, Semis: -48}); e != api.OK || textOf(u) != "key 0\nmeter 2 4\nbars single single\npart treble\nmeasure\nvoice r/2\nmeasure\nvoice c0/4 a0+b#0/4\n" {
		t.Error("down to the lowest pitch", textOf(u), e)
	}
}

// split is Split, by the document's definition.
func split(s api.Score) []api.Score {
	var l []api.Score
	for _, p := range s.Parts {
		l = append(l, api.Score{Key: s.Key, Meter: s.Meter, Bars: s.Bars, Free: s.Free, Parts: []api.Part{p}})
	}
	return l
}

func TestSplitAndJoin(t *testing.T) {
	r := rand.New(rand.NewSource(69))
	for range 300 {
		s := tune(r)
		before := shown(s)
		l, e := score.Split(s)
		if e != api.OK || shown(l) != shown(split(s)) {
			t.Fatalf("Split of %s: %s, %d", before, shown(l), e)
		}
		var sounds []score.Sound
		for p := range l {
			if at, e := score.Check(l[p]); at != (score.Spot{}) || e != api.OK {
				t.Fatalf("part %d is not right: %v, %d", p, at, e)
			}
			x, _ := score.Sounds(l[p])
			for _, y := range x {
				y.Part = p
				sounds = append(sounds, y)
			}
		}
		all, _ := score.Sounds(s)
		if !sameSounds(all, sounds) {
			t.Fatal("the sounds of the parts are not those of the whole")
		}
		parts := shown(l)
		j, e := score.Join(l)
		if e != api.OK || shown(j) != before || !score.Same(j, s) {
			t.Fatalf("Join of the parts of %s: %s, %d", before, shown(j), e)
		}
		scribble(j)
		if shown(l) != parts {
			t.Fatal("Join shares memory with its argument")
		}
		for p := range l {
			scribble(l[p])
			for q := p + 1; q < len(l); q++ {
				if shown(l[q]) != shown(split(s)[q]) {
					t.Fatal("two parts share memory")
				}
			}
		}
		if shown(s) != before {
			t.Fatal("Split shares memory with its argument")
		}
	}
}

// sameSounds reports whether two lists have the same sounds, in any order.
func sameSounds(a, b []score.Sound) bool {
	var l [2][]string
	for i, x := range [][]score.Sound{a, b} {
		for _, y := range x {
			l[i] = append(l[i], shown(y))
		}
		slices.Sort(l[i])
	}
	return slices.Equal(l[0], l[1])
}

func TestJoinInOrder(t *testing.T) {
	one := piece(t, "single close", "c4/2", "d4/2")
	two := piece(t, "single close", "e4/2", "f4/2")
	two.Parts[0].Clef = api.Bass
	both, e := score.Join([]api.Score{two, one})
	if e != api.OK || both.Parts[0].Clef != api.Bass || both.Parts[1].Clef != api.Treble {
		t.Fatal("Join", shown(both), e)
	}
	three, e := score.Join([]api.Score{one, both})
	if e != api.OK || len(three.Parts) != 3 || shown(three.Parts[1:]) != shown(both.Parts) || shown(three.Parts[:1]) != shown(one.Parts) {
		t.Fatal("Join of one part and two", shown(three), e)
	}
	alone, e := score.Join([]api.Score{three})
	if e != api.OK || !score.Same(alone, three) {
		t.Fatal("Join of one score", e)
	}
	twice, e := score.Join([]api.Score{one, one})
	if e != api.OK || shown(twice.Parts[0]) != shown(twice.Parts[1]) {
		t.Fatal("Join of a score and itself", e)
	}
	scribbleEvent(&twice.Parts[0].Measures[0].Voices[0][0])
	if shown(twice.Parts[1]) != shown(one.Parts[0]) {
		t.Error("two parts share memory")
	}
}

func TestSplitAndJoinErrors(t *testing.T) {
	s, want := wrong(t)
	if l, e := score.Split(s); len(l) != 0 || e != want {
		t.Error("Split of a score that is not right", l, e)
	}
	one, bad := parsed(t, example), s
	worse := score.Copy(one)
	worse.Key = 7
	like := func(change func(*api.Score)) api.Score {
		c := score.Copy(one)
		change(&c)
		return c
	}
	three, e := score.Join([]api.Score{one, one, one})
	if e != api.OK {
		t.Fatal("Join of three scores", e)
	}
	free := parsed(t, "key -1\nmeter 3 4\nbars single* final\npart treble\nmeasure\nvoice c4/4\nmeasure\nvoice r/2.\n")
	freer := parsed(t, "key -1\nmeter 3 4\nbars single* final\npart treble\nmeasure\nvoice c4/2\nmeasure\nvoice r/2.\n")
	for name, x := range map[string]struct {
		l []api.Score
		e api.Errno
	}{
		"no scores":                       {nil, api.ErrArg},
		"an empty list":                   {[]api.Score{}, api.ErrArg},
		"one that is not right":           {[]api.Score{bad}, want},
		"the first one that is not right": {[]api.Score{one, worse, bad}, api.ErrKey},
		"that one before others":          {[]api.Score{one, bad, worse}, want},
		"one behind too many parts":       {[]api.Score{three, three, bad}, want},
		"one behind another key":          {[]api.Score{one, like(func(c *api.Score) { c.Key = 0 }), bad}, want},
		"four parts":                      {[]api.Score{three, one}, api.ErrParts},
		"four scores":                     {[]api.Score{one, one, one, one}, api.ErrParts},
		"another key":                     {[]api.Score{one, like(func(c *api.Score) { c.Key = 0 })}, api.ErrParts},
		"another meter of this length":    {[]api.Score{one, like(func(c *api.Score) { c.Meter = api.Meter{Beats: 6, Unit: 8} })}, api.ErrParts},
		"another barline":                 {[]api.Score{one, one, like(func(c *api.Score) { c.Bars[0] = api.Double })}, api.ErrParts},
		"another Free":                    {[]api.Score{one, like(func(c *api.Score) { c.Free[1] = true })}, api.ErrParts},
		"another number of measures": {[]api.Score{one, like(func(c *api.Score) {
			c.Bars, c.Free, c.Parts[0].Measures = c.Bars[:1], c.Free[:1], c.Parts[0].Measures[:1]
		})}, api.ErrParts},
		"free measures":                        {[]api.Score{free, freer}, api.ErrSum},
		"free measures, and too many parts":    {[]api.Score{free, freer, free, free}, api.ErrParts},
		"free measures, and another key":       {[]api.Score{free, freer, like(func(c *api.Score) { c.Free[0], c.Key = true, 2 })}, api.ErrParts},
		"free measures that are alike":         {[]api.Score{free, free}, api.OK},
		"many scores":                          {slices.Repeat([]api.Score{one}, 1000), api.ErrParts},
		"many scores, and one is not right":    {append(slices.Repeat([]api.Score{one}, 1000), worse), api.ErrKey},
		"a zero score":                         {[]api.Score{{}}, api.ErrParts},
		"parts that are right with the others": {[]api.Score{one, one, one}, api.OK},
	} {
		j, e := score.Join(x.l)
		if e != x.e || e != api.OK && shown(j) != shown(api.Score{}) {
			t.Errorf("%s: Join: %d, not %d", name, e, x.e)
		}
	}
}
