package vote_test

import (
	"fmt"
	"math"
	"math/rand"
	"slices"
	"strings"
	"testing"

	"custos/api"
	"custos/score"
	"custos/vote"
)

// extremes has numbers that are too great, or too small, for everything.
var extremes = []int{math.MinInt, math.MinInt + 1, -1 << 32, -1000, 1 << 32, math.MaxInt - 1, math.MaxInt}

// long and short have voices of three quarters, and of one.
var (
	long  = strings.Split("c4+e4+g4+b4/2.;d4+f4+a4+c5/2.;c#4+e#4+g#4+b4+d5+f5+a5/2.;r/2.;c4/2.;d4/2.;c4+e4/2.;c4~+e4/2.;c4/4 d4/2;c4/4 d4/4 e4/4;c4~/4 c4/2;cb4/2.;c4/2._la;c4/8( d4/8) e4/2;c4/8 d4/8 e4/2;r/4 c4/2", ";")
	short = strings.Split("c4/4;d4/4;c4/8( d4/8);e4/8. r/16", ";")
)

// edition returns a score with the meter 3/4. Each column is the word of its barline and then the voices, those of a part with | between two, the parts with / between two words.
func edition(t *testing.T, columns ...string) api.Score {
	t.Helper()
	var bars []string
	parts := make([]string, strings.Count(columns[0], " / ")+1)
	for _, c := range columns {
		bar, rest, _ := strings.Cut(c, " ")
		bars = append(bars, bar)
		for p, m := range strings.Split(rest, " / ") {
			parts[p] += "measure\nvoice " + strings.ReplaceAll(m, " | ", "\nvoice ") + "\n"
		}
	}
	text := "key 0\nmeter 3 4\nbars " + strings.Join(bars, " ") + "\n"
	for _, p := range parts {
		text += "part treble\n" + p
	}
	s, line, e := score.Parse(text)
	if e != api.OK {
		t.Fatalf("Parse(%q): line %d, error %d", text, line, e)
	}
	return s
}

// single is an edition of one part with a column for each voice.
func single(t *testing.T, voices ...string) api.Score {
	t.Helper()
	var l []string
	for _, v := range voices {
		l = append(l, "single "+v)
	}
	return edition(t, l...)
}

// oneOf returns one of some things.
func oneOf[T any](r *rand.Rand, l ...T) T {
	return l[r.Intn(len(l))]
}

// column returns a column for an edition. The fewer voices there are to choose from, the more columns are equal.
func column(r *rand.Rand, parts, some int) string {
	voices, star := long, ""
	if r.Intn(3) == 0 {
		voices, star = oneOf(r, long, short), "*"
	}
	voices = voices[:min(some, len(voices))]
	var l []string
	for range parts {
		m := oneOf(r, voices...)
		if second := oneOf(r, voices...); r.Intn(4) == 0 && !strings.Contains(second, "_") {
			m += " | " + second
		}
		l = append(l, m)
	}
	return oneOf(r, "single", "single", "double", "close") + star + " " + strings.Join(l, " / ")
}

// tune returns the columns of an edition.
func tune(r *rand.Rand, parts, most, some int) []string {
	var l []string
	for range 1 + r.Intn(most) {
		l = append(l, column(r, parts, some))
	}
	return l
}

// changed returns the columns of another edition: some are left out, put in, or others.
func changed(r *rand.Rand, l []string, parts, often int) []string {
	var out []string
	for _, c := range l {
		switch r.Intn(often) {
		case 0:
			continue
		case 1:
			out = append(out, column(r, parts, 99))
		case 2:
			c = column(r, parts, 99)
		case 3:
			bar, rest, _ := strings.Cut(c, " ")
			c = oneOf(r, "final", "open") + bar[len(strings.TrimSuffix(bar, "*")):] + " " + rest
		case 4:
			bar, rest, _ := strings.Cut(c, " ")
			c = strings.TrimSuffix(bar, "*") + "* " + rest
		case 5:
			out = append(out, l[r.Intn(len(l))])
		}
		out = append(out, c)
	}
	if len(out) == 0 {
		return l
	}
	return out
}

// editions returns some scores that are comparable, and of which many have something in common.
func editions(t *testing.T, r *rand.Rand, n, most int) []api.Score {
	t.Helper()
	parts := 1 + r.Intn(2)
	first, often := tune(r, parts, most, oneOf(r, 2, 4, 99)), oneOf(r, 6, 9, 20)
	var l []api.Score
	for range n {
		l = append(l, edition(t, changed(r, first, parts, often)...))
	}
	return l
}

// words returns the events of words.
func words(t *testing.T, text string) []api.Event {
	t.Helper()
	var l []api.Event
	for _, w := range strings.Fields(text) {
		e, errno := score.Unword(w)
		if errno != api.OK {
			t.Fatalf("Unword(%q): error %d", w, errno)
		}
		l = append(l, e)
	}
	return l
}

// event returns an event of few kinds: any two of them have something in common. Its notes are in any order.
func event(r *rand.Rand) api.Event {
	e := api.Event{Value: oneOf[api.Value](r, 4, 8), Dot: r.Intn(4) == 0, Triple: r.Intn(4) == 0, Beam: api.Beam(r.Intn(2)), Text: oneOf(r, "", "", "la", "a-")}
	for _, i := range r.Perm(6)[:r.Intn(5)] {
		e.Notes = append(e.Notes, api.Note{Pitch: api.Pitch{Step: 28 + i/2, Alter: i % 2}, Tie: r.Intn(3) == 0})
	}
	return e
}

// voice returns up to so many events.
func voice(r *rand.Rand, most int) []api.Event {
	var l []api.Event
	for range r.Intn(most + 1) {
		l = append(l, event(r))
	}
	return l
}

// shown returns all of a value as a text; an empty list and nil look alike.
func shown(x any) string {
	return fmt.Sprintf("%+v", x)
}

// wrongScores has scores that are not right, with their errors.
func wrongScores(t *testing.T) map[api.Errno]api.Score {
	t.Helper()
	good := single(t, "c4/2.", "d4/2.")
	l := map[api.Errno]api.Score{api.ErrParts: {}}
	for errno, spoil := range map[api.Errno]func(*api.Score){
		api.ErrClef:  func(s *api.Score) { s.Parts[0].Clef = 9 },
		api.ErrMeter: func(s *api.Score) { s.Meter.Unit = 3 },
		api.ErrPitch: func(s *api.Score) { s.Parts[0].Measures[1].Voices[0][0].Notes[0].Pitch.Alter = 2 },
		api.ErrSum:   func(s *api.Score) { s.Parts[0].Measures[1].Voices[0][0].Dot = false },
	} {
		s := score.Copy(good)
		spoil(&s)
		l[errno] = s
	}
	return l
}

// strangers has scores that are not comparable with that of the voice c4/2., nor with each other.
func strangers(t *testing.T) []api.Score {
	t.Helper()
	var l []api.Score
	for _, change := range []func(*api.Score){
		func(s *api.Score) { s.Key = 1 },
		func(s *api.Score) { s.Meter = api.Meter{Beats: 6, Unit: 8} },
		func(s *api.Score) { s.Parts[0].Clef = api.Bass },
		func(s *api.Score) { s.Parts = append(s.Parts, score.Copy(*s).Parts...) },
	} {
		s := single(t, "c4/2.")
		change(&s)
		l = append(l, s)
	}
	two := edition(t, "single c4/2. / c4/2.")
	two.Parts[1].Clef = api.Alto
	return append(l, two)
}

// scribble changes all elements of all lists of some measures, and what lies behind them.
func scribble(l []api.Measure) {
	for _, m := range l {
		for _, v := range m.Voices {
			for i, e := range v {
				for n := range e.Notes {
					e.Notes[n] = api.Note{Pitch: api.Pitch{Step: -7}, Tie: !e.Notes[n].Tie}
				}
				_ = append(e.Notes, api.Note{})
				v[i] = api.Event{Value: 7}
			}
			_ = append(v, api.Event{Value: 77})
		}
		clear(m.Voices)
		_ = append(m.Voices, nil)
	}
	clear(l)
	_ = append(l, api.Measure{})
}

// scribbleColumns does it for columns.
func scribbleColumns(l []vote.Column) {
	for _, c := range l {
		scribble(c.Measures)
	}
	clear(l)
	_ = append(l, vote.Column{})
}

// scribbleScore does it for a score.
func scribbleScore(s api.Score) {
	for _, p := range s.Parts {
		scribble(p.Measures)
	}
	for i := range s.Bars {
		s.Bars[i], s.Free[i] = 77, !s.Free[i]
	}
	_, _, _ = append(s.Bars, 7), append(s.Free, true), append(s.Parts, api.Part{})
	clear(s.Parts)
}

// apartRows reports whether no rows of numbers lie behind each other in one list.
func apartRows(rows [][]int) bool {
	before := shown(rows)
	for _, row := range rows {
		_ = append(row, 77)
	}
	return shown(rows) == before && !slices.ContainsFunc(rows, func(row []int) bool { return row == nil })
}
