package score_test

import (
	"math/rand"
	"regexp"
	"slices"
	"strings"
	"testing"

	"custos/api"
	"custos/score"
)

// wordForm matches the words of events, and some words of chords that do not increase.
var wordForm = regexp.MustCompile(`^(?:r|[a-g][#b]?[0-9]~?(?:\+[a-g][#b]?[0-9]~?){0,7})/(?:1|2|4|8|16)\.?t?[(=)]?(?:_(?:[a-z]{1,4}|[a-z]{1,3}-))?$`)

// isWord reports whether a word is that of an event.
func isWord(w string) bool {
	if !wordForm.MatchString(w) {
		return false
	}
	before := -1
	for _, name := range strings.Split(w[:strings.Index(w, "/")], "+") {
		octave := strings.IndexAny(name, "0123456789")
		if octave < 0 {
			return true
		}
		step := 7*int(name[octave]-'0') + strings.IndexByte(letters, name[0])
		if step <= before {
			return false
		}
		before = step
	}
	return true
}

// goodWord checks what Unword makes of a word of an event.
func goodWord(t *testing.T, w string) {
	t.Helper()
	e, errno := score.Unword(w)
	if errno != api.OK || wordOf(e) != w {
		t.Fatalf("Unword(%q): %+v, %d", w, e, errno)
	}
	if again, errno := score.Word(e); again != w || errno != api.OK {
		t.Fatalf("Word(%+v): %q, %d", e, again, errno)
	}
}

// badWord checks what Unword makes of other words.
func badWord(t *testing.T, w string) {
	t.Helper()
	if e, errno := score.Unword(w); errno != api.ErrForm || shown(e) != shown(api.Event{}) {
		t.Fatalf("Unword(%q): %+v, %d", w[:min(len(w), 40)], e, errno)
	}
}

func TestWordExamples(t *testing.T) {
	tied := notes(33, 35)
	tied[1].Tie = true
	both := notes(0, 69)
	both[0].Pitch.Alter, both[0].Tie, both[1].Pitch.Alter, both[1].Tie = -1, true, 1, true
	for _, x := range []struct {
		w string
		e api.Event
	}{
		{"r/4", api.Event{Value: 4}},
		{"f4/4_la-", api.Event{Value: 4, Notes: notes(31), Text: "la-"}},
		{"a4+c5~/8(", api.Event{Value: 8, Notes: tied, Beam: api.BeamBegin}},
		{"cb0~+b#9~/16.t)_a", api.Event{Value: 16, Dot: true, Triple: true, Notes: both, Beam: api.BeamEnd, Text: "a"}},
		{"c0+d0+e0+f0+g0+a0+b0+c1/1", api.Event{Value: 1, Notes: notes(0, 1, 2, 3, 4, 5, 6, 7)}},
		// words of events that are wrong in a score
		{"r/1=_abc-", api.Event{Value: 1, Beam: api.BeamIn, Text: "abc-"}},
		{"c4/2(", api.Event{Value: 2, Notes: notes(28), Beam: api.BeamBegin}},
	} {
		if w, errno := score.Word(x.e); w != x.w || errno != api.OK {
			t.Errorf("Word(%+v): %q, %d", x.e, w, errno)
		}
		if e, errno := score.Unword(x.w); shown(e) != shown(x.e) || errno != api.OK {
			t.Errorf("Unword(%q): %+v, %d", x.w, e, errno)
		}
	}
}

// TestWordsOfAllEvents has all values, dots, triples, beams and some texts, with some notes.
func TestWordsOfAllEvents(t *testing.T) {
	r := rand.New(rand.NewSource(71))
	for _, v := range allValues {
		for code := range 16 {
			for _, text := range []string{"", "a", "z-", "abcd", "abc-"} {
				for range 6 {
					e := api.Event{Value: v, Dot: code&1 > 0, Triple: code&2 > 0, Beam: api.Beam(code >> 2), Text: text, Notes: chord(r, nil)}
					for n := range e.Notes {
						e.Notes[n].Tie = r.Intn(2) == 0
					}
					before := shown(e)
					w, errno := score.Word(e)
					if w != wordOf(e) || errno != api.OK || shown(e) != before {
						t.Fatalf("Word(%s): %q, %d", before, w, errno)
					}
					if back, errno := score.Unword(w); shown(back) != before || errno != api.OK {
						t.Fatalf("Unword(%q): %+v, %d", w, back, errno)
					}
				}
			}
		}
	}
}

func TestWordsOfAllPitches(t *testing.T) {
	for step := range 70 {
		for alter := -1; alter <= 1; alter++ {
			e := api.Event{Value: 4, Notes: []api.Note{{Pitch: api.Pitch{Step: step, Alter: alter}, Tie: step%2 == 0}}}
			w, errno := score.Word(e)
			if w != wordOf(e) || errno != api.OK {
				t.Errorf("Word(%+v): %q, %d", e, w, errno)
			}
			goodWord(t, w)
		}
	}
}

func TestWordErrors(t *testing.T) {
	flaws := []struct {
		e     api.Errno
		spoil func(e *api.Event)
	}{
		{api.ErrValue, func(e *api.Event) { e.Value = 0 }},
		{api.ErrValue, func(e *api.Event) { e.Value = 3 }},
		{api.ErrValue, func(e *api.Event) { e.Value = 32 }},
		{api.ErrValue, func(e *api.Event) { e.Value = -4 }},
		{api.ErrChord, func(e *api.Event) { e.Notes = append(notes(0, 1, 2, 3, 4, 5, 6, 7), e.Notes[len(e.Notes)-1]) }},
		{api.ErrChord, func(e *api.Event) { e.Notes = append(notes(28, 28), e.Notes[len(e.Notes)-1]) }},
		{api.ErrChord, func(e *api.Event) { e.Notes = append(notes(29, 28), e.Notes[len(e.Notes)-1]) }},
		{api.ErrPitch, func(e *api.Event) { e.Notes[len(e.Notes)-1].Pitch.Step = 70 }},
		{api.ErrPitch, func(e *api.Event) { e.Notes[0].Pitch.Alter = 2 }},
		{api.ErrPitch, func(e *api.Event) { e.Notes[0].Pitch.Alter = -2 }},
		{api.ErrBeam, func(e *api.Event) { e.Beam = 4 }},
		{api.ErrBeam, func(e *api.Event) { e.Beam = -1 }},
		{api.ErrText, func(e *api.Event) { e.Text = "-" }},
		{api.ErrText, func(e *api.Event) { e.Text = "abcde" }},
		{api.ErrText, func(e *api.Event) { e.Text = "a b" }},
	}
	for i, f := range flaws {
		for _, g := range flaws[i:] {
			e := api.Event{Value: 4, Notes: notes(40, 50)}
			f.spoil(&e)
			g.spoil(&e)
			if w, errno := score.Word(e); w != "" || errno != f.e {
				t.Errorf("Word(%+v): %q, %d, not %d", e, w, errno, f.e)
			}
		}
	}
	for _, n := range extremes {
		for _, x := range []struct {
			e    api.Event
			want api.Errno
		}{
			{api.Event{Value: api.Value(n)}, api.ErrValue},
			{api.Event{Value: 4, Notes: notes(n)}, api.ErrPitch},
			{api.Event{Value: 4, Notes: []api.Note{{Pitch: api.Pitch{Step: 28, Alter: n}}}}, api.ErrPitch},
			{api.Event{Value: 4, Beam: api.Beam(n)}, api.ErrBeam},
		} {
			if w, errno := score.Word(x.e); w != "" || errno != x.want {
				t.Errorf("Word(%+v): %q, %d", x.e, w, errno)
			}
		}
	}
	if w, errno := score.Word(api.Event{}); w != "" || errno != api.ErrValue {
		t.Errorf("Word of a zero value: %q, %d", w, errno)
	}
}

func TestUnwordExamples(t *testing.T) {
	for _, w := range []string{
		"", "/", "r", "r/", "/4", "c4", "c4/", "a4+c5", "c5+a4/4", "c4+c4/4", "c4+cb4/4", "r~/4", "r+c4/4", "c4+r/4", "c4+/4", "+c4/4", "c4++e4/4",
		"c4/3", "c4/0", "c4/04", "c4/32", "c4/44", "c4/-4", "c4/+4", "c4/4t.", "c4/4..", "c4/4tt", "c4/4()", "c4/4((", "c4/4(.", "c4/4(t", "c4/4_", "c4/4_-", "c4/4_abcde", "c4/4_abcd-",
		"c4/4_a_b", "c4/4__a", "c4/4_a/4", "c4/4_A", "c4/4_é", "c4/4_a ", "c4 /4", " c4/4", "c4/4 ", "c4/4\n", "C4/4", "h4/4", "c10/4", "c##4/4", "c/4", "4/4", "c~4/4", "c4~~/4", "c4/4~",
		"c0+d0+e0+f0+g0+a0+b0+c1+d1/4", "R/4", "rr/4", "r/4r", "r/1/6", "r/16x", "r/161", "r/1_6",
		strings.Repeat("c4+", 1<<16) + "c4/4", "c4/" + strings.Repeat("4", 1<<16), "c4/4_" + strings.Repeat("a", 1<<16), strings.Repeat("/", 1<<16), strings.Repeat("_", 1<<16), "\xff/4", "c4/4_\xff", "c\xff4/4", "r\x00/4",
	} {
		if isWord(w) {
			t.Errorf("%q is a word", w)
		}
		badWord(t, w)
	}
}

// TestUnwordOfShortWords tries all words of at most five bytes of some kinds.
func TestUnwordOfShortWords(t *testing.T) {
	good := 0
	l := []string{""}
	for k := 0; k < len(l); k++ {
		if w := l[k]; isWord(w) {
			goodWord(t, w)
			good++
		} else {
			badWord(t, w)
		}
		if len(l[k]) < 5 {
			for _, c := range "rcb14/+~.t(_-" {
				l = append(l, l[k]+string(c))
			}
		}
	}
	if good < 50 {
		t.Error(good, "words of events")
	}
}

// mutant returns a text with some bytes changed, taken out or put in.
func mutant(r *rand.Rand, text, bytes string) string {
	b := []byte(text)
	for range 1 + r.Intn(3) {
		at := r.Intn(len(b) + 1)
		c := bytes[r.Intn(len(bytes))]
		switch {
		case at == len(b) || r.Intn(3) == 0:
			b = slices.Insert(b, at, c)
		case r.Intn(2) == 0:
			b[at] = c
		default:
			b = slices.Delete(b, at, at+1)
		}
	}
	return string(b)
}

func TestUnwordOfMutants(t *testing.T) {
	r := rand.New(rand.NewSource(72))
	good := 0
	for range 40000 {
		e := api.Event{Value: allValues[r.Intn(5)], Dot: r.Intn(2) == 0, Triple: r.Intn(2) == 0, Beam: api.Beam(r.Intn(4)), Text: []string{"", "la-"}[r.Intn(2)], Notes: chord(r, nil)}
		w := mutant(r, wordOf(e), "rabcdefg0123456789#b~+/.t(=)_az- \n\xff")
		if isWord(w) {
			goodWord(t, w)
			good++
		} else {
			badWord(t, w)
		}
	}
	if good < 1000 {
		t.Error(good, "words of events")
	}
}
