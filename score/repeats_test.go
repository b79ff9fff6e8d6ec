package score_test

import (
	"math/rand"
	"slices"
	"strings"
	"testing"

	"custos/api"
	"custos/score"
)

// barred returns a score with some barlines, whose measures differ.
func barred(t *testing.T, bars string) api.Score {
	t.Helper()
	text := "key 0\nmeter 1 4\nbars " + bars + "\npart alto\n"
	for m := range strings.Fields(bars) {
		text += "measure\nvoice " + string(letters[m%7]) + string(rune('0'+m/7)) + "/4\n"
	}
	return parsed(t, text)
}

// order is Play, by what the document says of stretches: each one that ends with Close is played twice.
func order(bars []api.Bar) []int {
	var l []int
	var stretch []int
	for m, b := range bars {
		stretch = append(stretch, m)
		if b == api.Open || b == api.Close {
			l = append(l, stretch...)
			if b == api.Close {
				l = append(l, stretch...)
			}
			stretch = nil
		}
	}
	return append(l, stretch...)
}

func TestPlayExamples(t *testing.T) {
	for _, x := range []struct {
		bars string
		want []int
	}{
		{"single close open single close single", []int{0, 1, 0, 1, 2, 3, 4, 3, 4, 5}},
		{"single", []int{0}},
		{"final", []int{0}},
		{"open", []int{0}},
		{"close", []int{0, 0}},
		{"close close", []int{0, 0, 1, 1}},
		{"open close", []int{0, 1, 1}},
		{"open open close", []int{0, 1, 2, 2}},
		{"single single double final", []int{0, 1, 2, 3}},
		{"single final close", []int{0, 1, 2, 0, 1, 2}},
		{"close single open", []int{0, 0, 1, 2}},
		{"single open single close single close", []int{0, 1, 2, 3, 2, 3, 4, 5, 4, 5}},
		{"single close*", []int{0, 1, 0, 1}},
	} {
		s := barred(t, x.bars)
		if l, e := score.Play(s); e != api.OK || !slices.Equal(l, x.want) || !slices.Equal(order(s.Bars), x.want) {
			t.Errorf("Play with the bars %s: %v, %d", x.bars, l, e)
		}
	}
}

// barsBy returns the score with the barlines that a number says.
func barsBy(t *testing.T, n, code int) api.Score {
	var words []string
	for range n {
		words = append(words, barNames[1+code%5])
		code /= 5
	}
	return barred(t, strings.Join(words, " "))
}

// unfold is Unfold, by the document's definition.
func unfold(s api.Score) api.Score {
	u := api.Score{Key: s.Key, Meter: s.Meter}
	for range s.Parts {
		u.Parts = append(u.Parts, api.Part{})
	}
	l := order(s.Bars)
	for i, m := range l {
		b := s.Bars[m]
		if b > api.Final && i+1 < len(l) {
			b = api.Single
		} else if b > api.Final {
			b = api.Final
		}
		u.Bars, u.Free = append(u.Bars, b), append(u.Free, s.Free[m])
		for p := range u.Parts {
			u.Parts[p].Clef = s.Parts[p].Clef
			u.Parts[p].Measures = append(u.Parts[p].Measures, s.Parts[p].Measures[m])
		}
	}
	return u
}

func TestPlayAndUnfoldOfAllBars(t *testing.T) {
	n := 1
	for code := 0; n < 5; code++ {
		s := barsBy(t, n, code)
		before := shown(s)
		l, e := score.Play(s)
		if e != api.OK || !slices.Equal(l, order(s.Bars)) {
			t.Fatalf("Play with the bars %v: %v, %d", s.Bars, l, e)
		}
		u, e := score.Unfold(s)
		if e != api.OK || shown(u) != shown(unfold(s)) || shown(s) != before {
			t.Fatalf("Unfold with the bars %v: %s, %d", s.Bars, shown(u), e)
		}
		if code == 1<<(2*n) {
			n, code = n+1, -1
		}
	}
}

func TestUnfoldOfTunes(t *testing.T) {
	r := rand.New(rand.NewSource(67))
	for range 300 {
		s := tune(r)
		before := shown(s)
		u, e := score.Unfold(s)
		if e != api.OK || shown(u) != shown(unfold(s)) {
			t.Fatalf("Unfold of %s: %s, %d", before, shown(u), e)
		}
		if at, e := score.Check(u); at != (score.Spot{}) || e != api.OK {
			t.Fatalf("an unfolded score is not right: %v, %d", at, e)
		}
		straight := make([]int, len(u.Bars))
		for m := range straight {
			straight[m] = m
		}
		if l, e := score.Play(u); e != api.OK || !slices.Equal(l, straight) {
			t.Fatalf("an unfolded score is played as %v, %d", l, e)
		}
		if again, e := score.Unfold(u); e != api.OK || !score.Same(again, u) {
			t.Fatalf("an unfolded score unfolds to another one: %d", e)
		}
		scribble(u)
		if shown(s) != before {
			t.Fatal("Unfold shares memory with its argument")
		}
	}
}

// TestUnfoldedMeasuresAreCopies changes a measure that is played twice at one of its places.
func TestUnfoldedMeasuresAreCopies(t *testing.T) {
	u, e := score.Unfold(piece(t, "close", "c4/2 | e3/2"))
	if e != api.OK || len(u.Bars) != 2 {
		t.Fatal("Unfold", e)
	}
	want := shown(u.Parts[0].Measures[1])
	for _, l := range u.Parts[0].Measures[0].Voices {
		scribbleEvent(&l[0])
	}
	clear(u.Parts[0].Measures[0].Voices)
	if shown(u.Parts[0].Measures[1]) != want {
		t.Error("two measures share memory")
	}
}

func TestUnfoldLimits(t *testing.T) {
	for _, x := range []struct {
		bars string
		n    int
		e    api.Errno
	}{
		{strings.Repeat("single ", 64), 64, api.OK},
		{strings.Repeat("close ", 32), 64, api.OK},
		{strings.Repeat("close ", 33), 0, api.ErrMany},
		{strings.Repeat("single ", 32) + "close", 0, api.ErrMany},
		{strings.Repeat("single ", 31) + "close", 64, api.OK},
		{strings.Repeat("close ", 31) + "single single", 64, api.OK},
		{strings.Repeat("close ", 31) + "single single single", 0, api.ErrMany},
		{strings.Repeat("close ", 64), 0, api.ErrMany},
		{strings.Repeat("open ", 63) + "close", 0, api.ErrMany},
		{strings.Repeat("open ", 62) + "close", 64, api.OK},
	} {
		s := barred(t, strings.TrimSpace(x.bars))
		u, e := score.Unfold(s)
		if e != x.e || len(u.Bars) != x.n || e != api.OK && shown(u) != shown(api.Score{}) {
			t.Errorf("Unfold with the bars %s: %d bars, error %d", x.bars, len(u.Bars), e)
		}
		if l, e := score.Play(s); e != api.OK || !slices.Equal(l, order(s.Bars)) {
			t.Errorf("Play with the bars %s: %v, %d", x.bars, l, e)
		}
	}
}

func TestPlayAndUnfoldErrors(t *testing.T) {
	s, want := wrong(t)
	if l, e := score.Play(s); len(l) != 0 || e != want {
		t.Error("Play of a score that is not right", l, e)
	}
	if u, e := score.Unfold(s); shown(u) != shown(api.Score{}) || e != want {
		t.Error("Unfold of a score that is not right", u, e)
	}
	// The score is looked at before its measures are counted.
	s = barred(t, strings.TrimSpace(strings.Repeat("close ", 40)))
	s.Key = 5
	if _, e := score.Unfold(s); e != api.ErrKey {
		t.Error("Unfold of a score with two errors", e)
	}
}
