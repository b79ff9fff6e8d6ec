package vote_test

import (
	"math/rand"
	"slices"
	"testing"

	"custos/api"
	"custos/score"
	"custos/vote"
)

func TestDistance(t *testing.T) {
	for _, c := range []struct {
		a, b string
		want int
	}{
		{"c4/4", "c4/4", 0},
		{"c4/4", "c4+e4/4.", 2}, {"c4~/4", "c4/4", 1}, {"r/4", "c4/4", 1},
		{"c4/4", "c4/8", 1}, {"c4/4", "c4/4.", 1}, {"c4/4", "c4/4t", 1}, {"c4/4", "c4/8.t", 1}, {"c4/4.", "c4/4t", 1},
		{"c4/8(", "c4/8)", 1}, {"c4/8", "c4/8=", 1}, {"c4/8(", "c4/16)", 2},
		{"c4/4", "c4/4_la", 1}, {"c4/4_la", "c4/4_la-", 1}, {"c4/4_la", "c4/4_la", 0},
		{"c4/4", "d4/4", 2}, {"c4/4", "c#4/4", 2}, {"c4/4", "c5/4", 2}, {"c4~/4", "d4~/4", 2}, {"c4~/4", "c4~/4", 0},
		{"c4+e4+g4/4", "d4+e4+a4/4", 4}, {"c4~+e4~+g4/4", "c4+e4+g4~/4", 3}, {"c4+e4/4", "c4~+f4/4", 3},
		{"c4/4.t", "d4~/8(_la", 5}, {"r/4", "c4+d4+e4+f4+g4+a4+b4+c5/4", 8},
	} {
		a, b := words(t, c.a)[0], words(t, c.b)[0]
		if n, back := vote.Distance(a, b), vote.Distance(b, a); n != c.want || back != c.want {
			t.Errorf("Distance of %s and %s: %d and %d, want %d", c.a, c.b, n, back, c.want)
		}
	}
}

// notes returns an event of notes with some steps, those below 0 tied.
func notes(steps ...int) api.Event {
	e := api.Event{Value: api.Quarter}
	for _, s := range steps {
		e.Notes = append(e.Notes, api.Note{Pitch: api.Pitch{Step: max(s, -s)}, Tie: s < 0})
	}
	return e
}

// TestDistanceOfSets has pitches in any order, and more than once.
func TestDistanceOfSets(t *testing.T) {
	for i, c := range []struct {
		a, b api.Event
		want int
	}{
		{notes(1, 2, 3), notes(3, 1, 2), 0},
		{notes(1, 1, 1), notes(1), 0}, {notes(1, -1), notes(1), 0}, {notes(-1, 1), notes(1), 1}, {notes(-1, 1), notes(1, -1), 1}, {notes(1, -1), notes(1, 1, -1), 0},
		{notes(2, 2), notes(), 1}, {notes(2, 2, 3), notes(4, 4), 3}, {notes(2, 3, 2, 3), notes(3, 3), 1},
	} {
		if n, back := vote.Distance(c.a, c.b), vote.Distance(c.b, c.a); n != c.want || back != c.want {
			t.Errorf("case %d: %d and %d, want %d", i, n, back, c.want)
		}
	}
	if n := vote.Weight(notes(1, -1, 1)); n != 5 {
		t.Errorf("Weight of three notes of one pitch: %d", n)
	}
}

func TestDistanceOfAnything(t *testing.T) {
	for _, n := range extremes {
		e := api.Event{Value: api.Value(n), Beam: api.Beam(n), Text: "\xff", Notes: []api.Note{{Pitch: api.Pitch{Step: n, Alter: n}}}}
		if d := vote.Distance(e, e); d != 0 {
			t.Errorf("%d: Distance of one event: %d", n, d)
		}
		if d := vote.Distance(e, api.Event{}); d != 4 {
			t.Errorf("%d: Distance of an empty event: %d", n, d)
		}
	}
	var many api.Event
	for i := range 100000 {
		many.Notes = append(many.Notes, api.Note{Pitch: api.Pitch{Step: i}})
	}
	if d, w := vote.Distance(many, api.Event{}), vote.Weight(many); d != 100000 || w != 100002 {
		t.Errorf("%d, %d", d, w)
	}
}

func TestWeight(t *testing.T) {
	for text, want := range map[string]int{"r/4": 2, "c4+e4/4": 4, "c4/4": 3, "c4~/16.t(_la": 3, "c4+d4+e4+f4+g4+a4+b4+c5/4": 10} {
		if n := vote.Weight(words(t, text)[0]); n != want {
			t.Errorf("Weight of %s: %d", text, n)
		}
	}
}

// sorted returns a text for an event, with its notes in order.
func sorted(e api.Event) string {
	e.Notes = slices.SortedFunc(slices.Values(e.Notes), func(m, n api.Note) int {
		return 2*(m.Pitch.Step-n.Pitch.Step) + m.Pitch.Alter - n.Pitch.Alter
	})
	return shown(e)
}

// TestDistanceRandom compares with the definition, and sees that distances are a metric, and weights belong to it.
func TestDistanceRandom(t *testing.T) {
	r := rand.New(rand.NewSource(1))
	var seen [12]int
	for range 20000 {
		a, b, c := event(r), event(r), event(r)
		before := shown([]api.Event{a, b})
		n := vote.Distance(a, b)
		if n != distanceBy(a, b) || n != vote.Distance(b, a) {
			t.Fatalf("Distance of %+v and %+v: %d", a, b, n)
		}
		if (n == 0) != (sorted(a) == sorted(b)) || vote.Distance(a, a) != 0 || n > vote.Distance(a, c)+vote.Distance(c, b) {
			t.Fatalf("%+v, %+v and %+v: no metric", a, b, c)
		}
		if vote.Weight(a) > n+vote.Weight(b) || vote.Weight(a) != 2+len(a.Notes) {
			t.Fatalf("Weight of %+v", a)
		}
		if shown([]api.Event{a, b}) != before {
			t.Fatalf("%s was changed", before)
		}
		seen[n]++
	}
	if slices.Contains(seen[:8], 0) {
		t.Errorf("distances %v", seen)
	}
}

func TestVoices(t *testing.T) {
	for _, c := range []struct {
		a, b string
		want int
	}{
		{"", "", 0}, {"", "r/4 c4/4", 5}, {"c4+e4/4", "", 4},
		{"c4/4 d4/4 e4/4", "c4/4 e4/4", 3}, {"c4/4 d4/4 e4/4", "c4/4 d4/8 e4/4", 1},
		{"c4/4 r/4", "r/4 c4/4", 2}, {"c4/4 e4/4", "c4/4 d4/4 e4/4", 3},
		{"c4/4 d4/4 e4/4 f4/4", "d4/4 e4/4 f4/4 c4/4", 6}, {"c4/4", "c4/4 c4/4 c4/4", 6},
		{"c4+e4+g4/4. r/4", "r/4", 5}, {"c4+e4+g4/4 r/4", "r/4 c4+e4+g4/4", 4},
		{"c4+e4+g4+c5/4 d4/4", "d4/4 c4+e4+g4+c5/4", 6}, {"c4+e4+g4+c5/4. d4/8", "d4/8 c4+e4+g4+c5/4.", 6},
	} {
		n, e := vote.Voices(words(t, c.a), words(t, c.b))
		back, f := vote.Voices(words(t, c.b), words(t, c.a))
		if e != api.OK || f != api.OK || n != c.want || back != c.want {
			t.Errorf("Voices %s and %s: %d and %d, want %d, errors %d and %d", c.a, c.b, n, back, c.want, e, f)
		}
	}
}

func TestVoicesRandom(t *testing.T) {
	r := rand.New(rand.NewSource(2))
	skipped := 0
	for range 3000 {
		a, b, c := voice(r, 5), voice(r, 5), voice(r, 5)
		if r.Intn(3) == 0 && len(a) > 0 {
			b = slices.Delete(slices.Clone(a), len(a)/2, len(a)/2+1)
			skipped++
		}
		before := shown([][]api.Event{a, b})
		n, e := vote.Voices(a, b)
		if e != api.OK || n != voicesBy(a, b) {
			t.Fatalf("Voices %+v and %+v: %d, error %d", a, b, n, e)
		}
		back, _ := vote.Voices(b, a)
		other, _ := vote.Voices(a, c)
		rest, _ := vote.Voices(c, b)
		same, _ := vote.Voices(a, a)
		if n != back || n > other+rest || same != 0 {
			t.Fatalf("%+v, %+v and %+v: no metric", a, b, c)
		}
		if shown([][]api.Event{a, b}) != before {
			t.Fatalf("%s was changed", before)
		}
	}
	if skipped < 500 {
		t.Errorf("%d voices that lack an event", skipped)
	}
}

// TestVoicesOfDoubles has notes that count for weights, but not for distances.
func TestVoicesOfDoubles(t *testing.T) {
	r := rand.New(rand.NewSource(3))
	for range 1000 {
		var l [2][]api.Event
		for i := range l {
			for range r.Intn(5) {
				l[i] = append(l[i], notes(slices.Repeat([]int{1 + r.Intn(2), r.Intn(5) - 2}, 1+r.Intn(3))...))
			}
		}
		if n, e := vote.Voices(l[0], l[1]); e != api.OK || n != voicesBy(l[0], l[1]) {
			t.Fatalf("Voices %+v: %d, error %d", l, n, e)
		}
	}
}

func TestVoicesMany(t *testing.T) {
	full, over := make([]api.Event, score.MaxEvents), make([]api.Event, score.MaxEvents+1)
	for i, c := range []struct {
		a, b  []api.Event
		want  int
		errno api.Errno
	}{
		{full, full, 0, api.OK}, {full, nil, 96, api.OK}, {nil, full, 96, api.OK}, {full, full[:40], 16, api.OK},
		{over, nil, 0, api.ErrMany}, {nil, over, 0, api.ErrMany}, {over, over, 0, api.ErrMany}, {full, over, 0, api.ErrMany}, {over, full, 0, api.ErrMany},
		{make([]api.Event, 100000), nil, 0, api.ErrMany}, {nil, make([]api.Event, 100000), 0, api.ErrMany},
	} {
		if n, e := vote.Voices(c.a, c.b); n != c.want || e != c.errno {
			t.Errorf("case %d: %d, error %d, want %d, %d", i, n, e, c.want, c.errno)
		}
	}
}
