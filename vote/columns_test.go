package vote_test

import (
	"math/rand"
	"slices"
	"testing"

	"custos/api"
	"custos/score"
	"custos/vote"
)

func TestColumns(t *testing.T) {
	s := edition(t, "single c4/2. / r/2.", "close* d4/4 | e4/4 / f4/4")
	l, e := vote.Columns(s)
	if e != api.OK || len(l) != 2 {
		t.Fatalf("%+v, error %d", l, e)
	}
	of := func(voices ...string) api.Measure {
		var m api.Measure
		for _, v := range voices {
			m.Voices = append(m.Voices, words(t, v))
		}
		return m
	}
	want := []vote.Column{
		{Bar: api.Single, Measures: []api.Measure{of("c4/2."), of("r/2.")}},
		{Bar: api.Close, Free: true, Measures: []api.Measure{of("d4/4", "e4/4"), of("f4/4")}},
	}
	if shown(l) != shown(want) {
		t.Errorf("%+v, want %+v", l, want)
	}
}

func TestColumnsRandom(t *testing.T) {
	r := rand.New(rand.NewSource(11))
	for range 300 {
		s := edition(t, tune(r, 1+r.Intn(3), 8, 99)...)
		before := score.Copy(s)
		l, e := vote.Columns(s)
		if e != api.OK || len(l) != len(s.Bars) {
			t.Fatalf("%d columns, error %d", len(l), e)
		}
		for i, c := range l {
			if shown(c) != shown(columnBy(s, i)) {
				t.Fatalf("column %d: %+v, want %+v", i, c, columnBy(s, i))
			}
		}
		scribbleColumns(l)
		if !score.Same(s, before) {
			t.Fatal("the columns share memory with the score")
		}
	}
}

// TestColumnsShareNothing has a score whose measures are one and the same.
func TestColumnsShareNothing(t *testing.T) {
	s := single(t, "c4/2.", "c4/2.")
	s.Parts[0].Measures[1] = s.Parts[0].Measures[0]
	l, e := vote.Columns(s)
	if e != api.OK || len(l) != 2 {
		t.Fatalf("%+v, error %d", l, e)
	}
	scribble(l[0].Measures)
	if shown(l[1]) != shown(columnBy(s, 1)) {
		t.Errorf("the columns share memory: %+v", l[1])
	}
}

func TestColumnsErrors(t *testing.T) {
	for want, s := range wrongScores(t) {
		if l, e := vote.Columns(s); e != want || l != nil {
			t.Errorf("%+v, error %d, want %d", l, e, want)
		}
	}
}

// columnOf returns the only column of an edition.
func columnOf(t *testing.T, text string) vote.Column {
	t.Helper()
	l, e := vote.Columns(edition(t, text))
	if e != api.OK || len(l) != 1 {
		t.Fatalf("Columns: error %d", e)
	}
	return l[0]
}

func TestApart(t *testing.T) {
	for _, c := range []struct {
		a, b string
		want int
	}{
		{"single c4/2.", "single c4/2.", 0},
		{"single c4/2.", "double c4/2.", 1}, {"single c4/2.", "single* c4/2.", 1}, {"single c4/2.", "final* c4/2.", 2},
		{"single c4/2.", "single d4/2.", 2}, {"single c4/2.", "single c4/2. | c4/2.", 3}, {"single c4/2. | r/2.", "single c4/2.", 2},
		{"single c4/2. | d4/2.", "single d4/2. | c4/2.", 4}, {"single c4/2. / d4/2.", "single d4/2. / c4/2.", 4},
		{"single c4/2. / c4/2. | c4/2.", "single c4/2. | c4/2. / c4/2.", 6},
		{"single c4/2. | d4/2. / e4/2.", "close* c4/2._la | c4/2. / e4/2.", 5},
		{"single c4/2. / c4/2. / c4/2. | d4/2.", "single d4/2. / d4/2. / d4/2. | c4/2.", 8},
		{"single c4/4 d4/4 e4/4", "single c4/2.", 7},
	} {
		a, b := columnOf(t, c.a), columnOf(t, c.b)
		n, e := vote.Apart(a, b)
		back, f := vote.Apart(b, a)
		if e != api.OK || f != api.OK || n != c.want || back != c.want {
			t.Errorf("Apart of %s and %s: %d and %d, want %d, errors %d and %d", c.a, c.b, n, back, c.want, e, f)
		}
	}
}

func TestHeavy(t *testing.T) {
	for text, want := range map[string]int{
		"single c4/2.": 5, "final* r/4": 4, "single c4+e4/2. | d4/4 r/2": 11, "single c4/2. / c4/2. | c4/2. / r/2.": 13, "single c4~/4 c4/2": 8,
	} {
		if n, e := vote.Heavy(columnOf(t, text)); e != api.OK || n != want {
			t.Errorf("Heavy of %s: %d, want %d, error %d", text, n, want, e)
		}
	}
	if n, e := vote.Heavy(vote.Column{}); e != api.OK || n != 2 {
		t.Errorf("Heavy of an empty column: %d, error %d", n, e)
	}
}

// anyColumn returns a column that no score has.
func anyColumn(r *rand.Rand, parts int) vote.Column {
	c := vote.Column{Bar: api.Bar(r.Intn(3) * 7), Free: r.Intn(2) == 0}
	for range parts {
		var m api.Measure
		for range r.Intn(3) {
			m.Voices = append(m.Voices, voice(r, 3))
		}
		c.Measures = append(c.Measures, m)
	}
	return c
}

// TestApartRandom compares with the definition, and sees that distances are a metric, and weights belong to it.
func TestApartRandom(t *testing.T) {
	r := rand.New(rand.NewSource(12))
	for range 2000 {
		parts := r.Intn(4)
		l := []vote.Column{anyColumn(r, parts), anyColumn(r, parts), anyColumn(r, parts)}
		before := shown(l)
		var n [3][3]int
		for i := range l {
			for j := range l {
				var e api.Errno
				if n[i][j], e = vote.Apart(l[i], l[j]); e != api.OK || n[i][j] != apartBy(l[i], l[j]) {
					t.Fatalf("Apart of %+v and %+v: %d, error %d", l[i], l[j], n[i][j], e)
				}
			}
		}
		if n[0][0] != 0 || n[0][1] != n[1][0] || n[0][1] > n[0][2]+n[2][1] {
			t.Fatalf("%+v: no metric", l)
		}
		a, e := vote.Heavy(l[0])
		b, f := vote.Heavy(l[1])
		if e != api.OK || f != api.OK || a != heavyBy(l[0]) || a > n[0][1]+b {
			t.Fatalf("Heavy of %+v: %d, error %d", l[0], a, e)
		}
		if shown(l) != before {
			t.Fatalf("%s was changed", before)
		}
	}
}

// large returns columns that have too much of something, and the number of their parts.
func large() map[int][]vote.Column {
	full := api.Measure{Voices: [][]api.Event{make([]api.Event, score.MaxEvents), make([]api.Event, score.MaxEvents)}}
	long := api.Measure{Voices: [][]api.Event{make([]api.Event, score.MaxEvents+1)}}
	second := api.Measure{Voices: [][]api.Event{nil, make([]api.Event, score.MaxEvents+1)}}
	three := api.Measure{Voices: make([][]api.Event, 3)}
	of := func(l ...api.Measure) vote.Column { return vote.Column{Measures: l} }
	return map[int][]vote.Column{
		1:      {of(long), of(second), of(three)},
		3:      {of(full, full, long), of(full, second, full), of(three, full, full)},
		4:      {of(make([]api.Measure, 4)...), of(full, full, full, full)},
		100000: {of(make([]api.Measure, 100000)...)},
	}
}

func TestColumnsTooLarge(t *testing.T) {
	full := api.Measure{Voices: [][]api.Event{make([]api.Event, score.MaxEvents), make([]api.Event, score.MaxEvents)}}
	for parts, l := range large() {
		for i, c := range l {
			good := vote.Column{Measures: slices.Repeat([]api.Measure{full}, parts)}
			if n, e := vote.Heavy(c); n != 0 || e != api.ErrMany {
				t.Errorf("%d parts, case %d: Heavy %d, error %d", parts, i, n, e)
			}
			for _, x := range [][2]vote.Column{{c, good}, {good, c}, {c, c}} {
				if n, e := vote.Apart(x[0], x[1]); n != 0 || e != api.ErrMany {
					t.Errorf("%d parts, case %d: Apart %d, error %d", parts, i, n, e)
				}
			}
			for _, other := range []int{parts - 1, parts + 1} {
				more := vote.Column{Measures: make([]api.Measure, other)}
				if n, e := vote.Apart(c, more); n != 0 || e != api.ErrAlign {
					t.Errorf("%d parts, case %d: Apart of %d parts %d, error %d", parts, i, other, n, e)
				}
				if n, e := vote.Apart(more, c); n != 0 || e != api.ErrAlign {
					t.Errorf("%d parts, case %d: Apart of %d parts %d, error %d", parts, i, other, n, e)
				}
			}
		}
	}
	most := vote.Column{Measures: []api.Measure{full, full, full}}
	none := vote.Column{Measures: make([]api.Measure, 3)}
	h, e := vote.Heavy(most)
	n, f := vote.Apart(most, none)
	if h != 2+6*96 || n != 6*96 || e != api.OK || f != api.OK {
		t.Errorf("Heavy %d, Apart %d, errors %d and %d", h, n, e, f)
	}
}
