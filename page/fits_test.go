package page_test

import (
	"math/rand"
	"strings"
	"testing"

	"custos/api"
	"custos/page"
	"custos/score"
)

func TestFitsExamples(t *testing.T) {
	for _, x := range []struct {
		name  string
		s     api.Score
		at    score.Spot
		errno api.Errno
	}{
		{"the chapter's score", parsed(t, strings.Replace(chapter, "%", "f#4", 1)), score.Spot{}, api.OK},
		{"the lowest and the highest step", piece(t, "2 4", "single", "treble a3/4 c6/4"), score.Spot{}, api.OK},
		{"a step too low", piece(t, "2 4", "single single", "treble r/2 | a3/4 g3/4"), score.Spot{Measure: 1, Event: 1}, api.ErrRange},
		{"a step too high", piece(t, "2 4", "single", "treble c6/4 e4+d6/4"), score.Spot{Event: 1}, api.ErrRange},
		{"other steps in another clef", piece(t, "2 4", "single", "bass c2/4 e4/4", "alto b2/4 d5/4"), score.Spot{}, api.OK},
		{"too low there", piece(t, "2 4", "single", "bass c2/4 e4/4", "alto b2/4 a2/4"), score.Spot{Part: 1, Event: 1}, api.ErrRange},
		{"too high there", piece(t, "2 4", "single", "alto d5/2", "bass f4/4 c2/4"), score.Spot{Part: 1}, api.ErrRange},
		{"the range goes before the voices", piece(t, "2 4", "single", "treble e4/2 ; d6/2"), score.Spot{Voice: 1}, api.ErrRange},
		{"two notes a step apart", piece(t, "2 4", "single single", "treble r/2 | c4/4 c4+e4+f4/4"), score.Spot{Measure: 1, Event: 1}, api.ErrClose},
		{"the chapter's chord", piece(t, "2 4", "single", "treble d4+e4/2"), score.Spot{}, api.ErrClose},
		{"two steps apart", piece(t, "2 4", "single", "treble d4+f4+a4/2"), score.Spot{}, api.OK},
		{"a later range goes before closeness", piece(t, "2 4", "single single", "treble d4+e4/2 | r/4 g3/4"), score.Spot{Measure: 1, Event: 1}, api.ErrRange},
		{"later closeness goes before voices", piece(t, "2 4", "single", "treble e4/2 ; e4/2", "treble c4+d4/2"), score.Spot{Part: 1}, api.ErrClose},
		{"voices at their limits", piece(t, "2 4", "single", "treble c5/4 c6/4 ; a4/4 a3/4"), score.Spot{}, api.OK},
		{"the first voice too low", piece(t, "2 4", "single", "treble c5/4 b4+d5/4 ; a4/4 a3/4"), score.Spot{Event: 1}, api.ErrVoices},
		{"the second voice too high", piece(t, "2 4", "single", "treble c5/4 c6/4 ; a4/4 a3+b4/4"), score.Spot{Voice: 1, Event: 1}, api.ErrVoices},
		{"one voice may be anywhere", piece(t, "2 4", "single", "treble a3+b4/4 b4+c6/4"), score.Spot{}, api.OK},
		{"a voice in another clef", piece(t, "2 4", "single", "alto d4/2 ; b3/2", "bass e3/2 ; d3/2"), score.Spot{Part: 1, Voice: 1}, api.ErrVoices},
		{"whole notes", piece(t, "4 4", "single single", "treble e4/1 | c5/2 c5/2 ; a4/1"), score.Spot{Measure: 1, Voice: 1}, api.ErrVoices},
		{"whole rests", piece(t, "4 4", "single single", "treble r/1 | r/1 ; a4/2 r/2"), score.Spot{Measure: 1}, api.ErrVoices},
		{"dotted and triple whole notes", piece(t, "4 4", "single", "treble c5/1.t ; a4/2 r/2"), score.Spot{}, api.ErrVoices},
		{"a wrong whole note goes before a wrong step", piece(t, "4 4", "single", "treble c5/2 c5/2 ; a4/1", "treble e4/2 r/2 ; r/2 r/2"), score.Spot{Voice: 1}, api.ErrVoices},
		{"a wrong step goes before a wrong whole note", piece(t, "4 4", "single", "treble c5/2 e4/2 ; a4/1"), score.Spot{Event: 1}, api.ErrVoices},
		{"voices go before width", piece(t, "1 4", "single* single", "treble "+rests(21)+" | b4/4 ; a4/4"), score.Spot{Measure: 1}, api.ErrVoices},
		{"20 columns", long(t, 1, 20), score.Spot{}, api.OK},
		{"21 columns", long(t, 1, 21), score.Spot{}, api.ErrWide},
		{"width goes before length", piece(t, "1 4", strings.TrimSpace(strings.Repeat("single* ", 6)), "treble "+strings.Join([]string{rests(20), rests(20), rests(21), rests(20), rests(21), rests(20)}, " | ")), score.Spot{Measure: 2}, api.ErrWide},
		{"five systems", long(t, 5, 20), score.Spot{}, api.OK},
		{"six systems", long(t, 6, 20), score.Spot{}, api.ErrLong},
		{"50 measures of one column", long(t, 50, 1), score.Spot{}, api.OK},
		{"51 measures of one column", long(t, 51, 1), score.Spot{}, api.ErrLong},
	} {
		if at, e := page.Fits(x.s); at != x.at || e != x.errno {
			t.Errorf("%s: %+v, error %d; want %+v, error %d", x.name, at, e, x.at, x.errno)
		}
	}
}

// rests returns the words of so many rests.
func rests(n int) string {
	return strings.TrimSpace(strings.Repeat("r/16 ", n))
}

// TestWideTogether has measures that are too wide only because of their parts, or voices, together.
func TestWideTogether(t *testing.T) {
	even := strings.TrimSpace(strings.Repeat("r/8 ", 10))    // 0, 12 .. 108
	thirds := strings.TrimSpace(strings.Repeat("r/8t ", 15)) // 0, 8 .. 112
	// They have five onsets in common.
	for _, x := range []struct {
		name string
		s    api.Score
		at   score.Spot
		e    api.Errno
	}{
		{"voices", piece(t, "5 4", "single", "treble "+even+" ; "+thirds), score.Spot{}, api.OK},
		{"parts", piece(t, "5 4", "single", "treble "+even, "alto "+thirds), score.Spot{}, api.OK},
		{"three voices", piece(t, "5 4", "single single", "treble r/2 r/2 r/4 | r/2 r/2 r/8. r/16", "alto r/2 r/2 r/4 | "+even+" ; "+thirds), score.Spot{Measure: 1}, api.ErrWide},
	} {
		if at, e := page.Fits(x.s); at != x.at || e != x.e {
			t.Errorf("%s: %+v, error %d", x.name, at, e)
		}
	}
}

// TestLongByParts has scores with more parts, of which fewer systems are allowed.
func TestLongByParts(t *testing.T) {
	for parts, systems := range map[int]int{1: 5, 2: 2, 3: 1} {
		for n := 1; n <= 6; n++ {
			s := long(t, n, 20)
			for len(s.Parts) < parts {
				s.Parts = append(s.Parts, s.Parts[0])
			}
			want := api.OK
			if n > systems {
				want = api.ErrLong
			}
			if at, e := page.Fits(s); at != (score.Spot{}) || e != want {
				t.Errorf("%d systems of %d parts: %+v, error %d", n, parts, at, e)
			}
		}
	}
}

func TestFitsByDefinition(t *testing.T) {
	r := rand.New(rand.NewSource(1))
	seen := map[api.Errno]int{}
	for range 4000 {
		s := tune(r, true)
		if at, e := score.Check(s); e != api.OK {
			t.Fatalf("the test's own score is wrong at %+v: error %d", at, e)
		}
		at, errno := fitsBy(s)
		seen[errno]++
		if gotAt, got := page.Fits(s); gotAt != at || got != errno {
			text, _ := score.Format(s)
			t.Fatalf("%+v, error %d; want %+v, error %d:\n%s", gotAt, got, at, errno, text)
		}
	}
	for _, e := range []api.Errno{api.OK, api.ErrRange, api.ErrClose, api.ErrVoices, api.ErrWide, api.ErrLong} {
		if seen[e] < 20 {
			t.Errorf("error %d came %d times only", e, seen[e])
		}
	}
}

// TestOfCheck has scores that are not right: their errors go before all others.
func TestOfCheck(t *testing.T) {
	s, at, errno := wrong(t)
	s.Parts[0].Measures[0].Voices[0][0].Notes[0].Pitch.Step = 0
	if got, e := page.Fits(s); got != at || e != errno {
		t.Errorf("Fits: %+v, error %d", got, e)
	}
	refuses(t, s, errno)
	if l, e := page.Columns(s, -1); e != errno || !zero(l) {
		t.Errorf("Columns: %v, error %d", l, e)
	}
	if _, e := page.Fits(api.Score{}); e != api.ErrParts {
		t.Errorf("the zero score: error %d", e)
	}
	refuses(t, api.Score{}, api.ErrParts)
}

// TestOfFits has scores that do not fit.
func TestOfFits(t *testing.T) {
	for errno, s := range map[api.Errno]api.Score{
		api.ErrRange:  piece(t, "1 4", "single", "treble g3/4"),
		api.ErrClose:  piece(t, "1 4", "single", "treble d4+e4/4"),
		api.ErrVoices: piece(t, "1 4", "single", "treble d4/4 ; r/4"),
		api.ErrWide:   long(t, 1, 21),
		api.ErrLong:   long(t, 6, 20),
	} {
		refuses(t, s, errno)
		if l, e := page.Columns(s, 0); e != api.OK || len(l) != len(columnsBy(s, 0)) {
			t.Errorf("Columns: %v, error %d", l, e)
		}
	}
}

// refuses checks that nothing is made of a score that does not fit.
func refuses(t *testing.T, s api.Score, errno api.Errno) {
	t.Helper()
	if l, e := page.Layout(s); e != errno || !zero(l) {
		t.Errorf("Layout: %v, error %d, want %d", l, e, errno)
	}
	if l, e := page.Cells(s); e != errno || !zero(l) {
		t.Errorf("Cells: %v, error %d, want %d", l, e, errno)
	}
	if k, e := page.Draw(s); e != errno || !zero(k) {
		t.Errorf("Draw: error %d, want %d", e, errno)
	}
}

// TestExtremes has numbers in scores that nothing may have.
func TestExtremes(t *testing.T) {
	for _, x := range extremes {
		for i := range 11 {
			s := parsed(t, strings.Replace(chapter, "%", "f4", 1))
			e := &s.Parts[0].Measures[0].Voices[0][0]
			switch i {
			case 0:
				s.Key = x
			case 1:
				s.Meter.Beats = x
			case 2:
				s.Meter.Unit = x
			case 3:
				s.Bars[0] = api.Bar(x)
			case 4:
				s.Parts[0].Clef = api.Clef(x)
			case 5:
				e.Value = api.Value(x)
			case 6:
				e.Beam = api.Beam(x)
			case 7:
				e.Notes[0].Pitch.Step = x
			case 8:
				e.Notes[0].Pitch.Alter = x
			case 9:
				s.Free = nil
			case 10:
				s.Parts[0].Measures = nil
			}
			at, errno := score.Check(s)
			if errno == api.OK {
				t.Fatalf("%d in %d is right", x, i)
			}
			if got, e := page.Fits(s); got != at || e != errno {
				t.Errorf("%d in %d: %+v, error %d", x, i, got, e)
			}
			refuses(t, s, errno)
		}
	}
}
