package score_test

import (
	"math/rand"
	"regexp"
	"slices"
	"sort"
	"strings"
	"testing"

	"custos/api"
	"custos/score"
)

// numberForm matches the numbers of a text.
const numberForm = `(?:0|-?[1-9][0-9]{0,8})`

// lineForms has what matches the lines of a text, but for the words of events.
var lineForms = map[string]*regexp.Regexp{
	"k": regexp.MustCompile(`^key ` + numberForm + `\n$`),
	"m": regexp.MustCompile(`^meter ` + numberForm + ` ` + numberForm + `\n$`),
	"b": regexp.MustCompile(`^bars(?: (?:single|double|final|open|close)\*?)+\n$`),
	"p": regexp.MustCompile(`^part (?:treble|alto|bass)\n$`),
	"e": regexp.MustCompile(`^measure\n$`),
	"v": regexp.MustCompile(`^voice(?: [^ \n]+)+\n$`),
}

// linesForm matches the kinds of the lines of a whole text.
var linesForm = regexp.MustCompile(`^kmb(?:p(?:ev+)+)+$`)

// kindOfLine returns the kind of a line, and x if it is none.
func kindOfLine(line string) string {
	for kind, form := range lineForms {
		if form.MatchString(line) && (kind != "v" || !slices.ContainsFunc(strings.Split(strings.TrimSuffix(line, "\n"), " ")[1:], func(w string) bool { return !isWord(w) })) {
			return kind
		}
	}
	return "x"
}

// firstBad returns the place of the first of some kinds that cannot stand there in a whole that a form matches, or how many there are, if each beginning of a whole can be completed with an end of one of the examples.
func firstBad(kinds string, form *regexp.Regexp, examples ...string) int {
	return sort.Search(len(kinds), func(k int) bool {
		for _, x := range examples {
			for i := range len(x) + 1 {
				if form.MatchString(kinds[:k+1] + x[i:]) {
					return false
				}
			}
		}
		return true
	})
}

// firstBadLine returns the index that Parse tells with ErrForm, or -1.
func firstBadLine(text string) int {
	kinds := ""
	for _, line := range strings.SplitAfter(text, "\n") {
		if line != "" {
			kinds += kindOfLine(line)
		}
	}
	if linesForm.MatchString(kinds) {
		return -1
	}
	return firstBad(kinds, linesForm, "kmbpev")
}

// badText checks that Parse tells an error.
func badText(t *testing.T, text string, index int, e api.Errno) {
	t.Helper()
	s, i, errno := score.Parse(text)
	if shown(s) != shown(api.Score{}) || i != index || errno != e {
		t.Fatalf("Parse(%q): %s, %d, %d, not %d, %d", text[:min(len(text), 400)], shown(s), i, errno, index, e)
	}
}

// expressible reports whether a score has a text, be it right or not.
func expressible(s api.Score) bool {
	if len(s.Parts) == 0 || len(s.Bars) == 0 || len(s.Free) != len(s.Bars) || slices.Min(s.Bars) < 1 || slices.Max(s.Bars) > 5 {
		return false
	}
	for _, p := range s.Parts {
		if p.Clef < 1 || p.Clef > 3 || len(p.Measures) == 0 {
			return false
		}
		for _, m := range p.Measures {
			if len(m.Voices) == 0 {
				return false
			}
			for _, l := range m.Voices {
				if len(l) == 0 || slices.ContainsFunc(l, func(e api.Event) bool { _, errno := score.Word(e); return errno != api.OK }) {
					return false
				}
			}
		}
	}
	return true
}

func TestFormatAndParse(t *testing.T) {
	r := rand.New(rand.NewSource(73))
	for range 400 {
		s := tune(r)
		before := shown(s)
		text, e := score.Format(s)
		if text != textOf(s) || e != api.OK || shown(s) != before {
			t.Fatalf("Format of %s: %q, %d", before, text, e)
		}
		back, i, e := score.Parse(text)
		if shown(back) != before || !score.Same(back, s) || i != 0 || e != api.OK {
			t.Fatalf("Parse(%q): %s, %d, %d", text, shown(back), i, e)
		}
		if firstBadLine(text) >= 0 {
			t.Fatalf("line %d of %q is bad", firstBadLine(text), text)
		}
	}
	s, want := wrong(t)
	if text, e := score.Format(s); text != "" || e != want {
		t.Errorf("Format of a score that is not right: %q, %d", text, e)
	}
}

func TestParseExample(t *testing.T) {
	s := parsed(t, example)
	if s.Key != -1 || s.Meter != (api.Meter{Beats: 3, Unit: 4}) || !slices.Equal(s.Bars, []api.Bar{api.Single, api.Final}) || !slices.Equal(s.Free, []bool{false, false}) || len(s.Parts) != 1 || s.Parts[0].Clef != api.Treble {
		t.Error("the example is read as", shown(s))
	}
	first := []api.Event{
		{Value: 4, Notes: notes(31), Text: "la-"},
		{Value: 8, Notes: []api.Note{{Pitch: api.Pitch{Step: 33}}, {Pitch: api.Pitch{Step: 35}, Tie: true}}, Beam: api.BeamBegin},
		{Value: 8, Notes: notes(35), Beam: api.BeamEnd},
		{Value: 4},
	}
	if l := s.Parts[0].Measures[0].Voices; len(l) != 1 || shown(l[0]) != shown(first) {
		t.Error("the first measure is read as", shown(l))
	}
	for kinds, want := range map[string][]bool{"single final": {false, false}, "single* final": {true, false}, "double open*": {false, true}} {
		s := parsed(t, strings.Replace(example, "single final", kinds, 1))
		if !slices.Equal(s.Free, want) || barsOf(s) != kinds {
			t.Error("the bars", kinds, "are read as", s.Bars, s.Free)
		}
	}
}

func TestParseOfBadLines(t *testing.T) {
	lines := strings.SplitAfter(strings.TrimSuffix(example, "\n"), "\n")
	for i, l := range map[int][]string{
		0: {"", "\n", "key\n", "key \n", "key 00\n", "key -0\n", "key +1\n", "key 01\n", "key 1 \n", "key  1\n", " key 1\n", "key 1 1\n", "key 1.\n", "key 1_0\n", "key 1234567890\n", "key -1234567890\n", "key 99999999999999999999\n", "key one\n", "Key 1\n", "key\t1\n", "key 1\r\n", "key 1*\n", "key --1\n", "meter 3 4\n", "key١\n", "key ١\n"},
		1: {"\n", "meter\n", "meter 3\n", "meter 3 4 4\n", "meter 3  4\n", "meter 3/4\n", "meter 03 4\n", "meter 3 +4\n", "meter 3 4 \n", "meter 1234567890 4\n", "meter 3 1234567890\n", "bars single\n", "key 1\n"},
		2: {"\n", "bars\n", "bars \n", "bars single  final\n", "bars single final \n", "bars last\n", "bars single **\n", "bars single**\n", "bars *\n", "bars Single\n", "bars single* *\n", "bars 1\n", "barssingle\n", "part treble\n"},
		3: {"\n", "part\n", "part \n", "part tenor\n", "part treble bass\n", "part treble \n", "part 1\n", "part Treble\n", "measure\n", "voice r/4\n"},
		4: {"\n", "measure \n", "measure 1\n", "measures\n", "Measure\n", "part treble\n", "voice r/2.\n"},
		5: {"\n", "voice\n", "voice \n", "voice  r/2.\n", "voice r/2. \n", "voice r/2  r/4\n", "voice r/3\n", "voice r/2._\n", "voice x\n", "voice (r/4)\n", "measure\n", "part treble\n", "bars single\n"},
		6: {"\n", "key 1\n", "meter 3 4\n", "bars single\n", "x\n", "measure \n", " measure\n"},
		7: {"\n", "measure\n", "voice\n", "voice bb4/2.", "voice bb4/2. ", "voice bb4/2.\r\n", ""},
	} {
		for _, line := range l {
			text := strings.Join(lines[:i], "") + line
			if line != "" {
				text += strings.Join(lines[i+1:], "")
			}
			if firstBadLine(text) != i {
				t.Errorf("by definition, line %d of %q is bad", firstBadLine(text), text)
			}
			badText(t, text, i, api.ErrForm)
		}
	}
}

// TestParseOfTextsThatEnd has all beginnings of the example, and some ends.
func TestParseOfTextsThatEnd(t *testing.T) {
	for n := range len(example) {
		text := example[:n]
		want := strings.Count(text, "\n")
		// With six lines a part has only one measure; the text is one of a score that is not right.
		if text != "" && want == 6 && strings.HasSuffix(text, "\n") {
			badText(t, text, want, api.ErrParts)
			continue
		}
		badText(t, text, min(want, firstBadLine(text)), api.ErrForm)
	}
	for text, want := range map[string]int{example + "measure\n": 9, example + "part alto\n": 9, example + "part alto\nmeasure\n": 10, example + "part": 8, example + " ": 8, example + "\n": 8, example + "key -1\n": 8, example + example: 8, example + "\n\n": 8, "\n" + example: 0, " " + example: 0} {
		badText(t, text, want, api.ErrForm)
	}
}

// TestParseOfNumbers has numbers that are lines of a text, and wrong in a score.
func TestParseOfNumbers(t *testing.T) {
	for _, x := range []struct {
		old, new string
		e        api.Errno
	}{
		{"key -1", "key 5", api.ErrKey},
		{"key -1", "key -5", api.ErrKey},
		{"key -1", "key 999999999", api.ErrKey},
		{"key -1", "key -999999999", api.ErrKey},
		{"meter 3 4", "meter 0 4", api.ErrMeter},
		{"meter 3 4", "meter 10 4", api.ErrMeter},
		{"meter 3 4", "meter 3 16", api.ErrMeter},
		{"meter 3 4", "meter 999999999 999999999", api.ErrMeter},
		{"meter 3 4", "meter -3 -4", api.ErrMeter},
		{"meter 3 4", "meter 2 4", api.ErrSum},
	} {
		badText(t, strings.Replace(example, x.old, x.new, 1), 8, x.e)
	}
	for key := -4; key <= 4; key++ {
		s := parsed(t, strings.Replace(example, "key -1", "key "+shown(key), 1))
		if s.Key != key {
			t.Errorf("the key %d is read as %d", key, s.Key)
		}
	}
}

// TestParseOfScoresThatAreNotRight spoils scores in ways that texts can tell.
func TestParseOfScoresThatAreNotRight(t *testing.T) {
	r := rand.New(rand.NewSource(74))
	count := map[api.Errno]int{}
	for range 4000 {
		s := tune(r)
		spoilAnything(r, &s)
		if !expressible(s) {
			continue
		}
		_, e := judge(s)
		count[e]++
		text := textOf(s)
		if e != api.OK {
			badText(t, text, strings.Count(text, "\n"), e)
		} else if back := parsed(t, text); shown(back) != shown(s) {
			t.Fatalf("Parse(%q): %s", text, shown(back))
		}
	}
	for _, e := range []api.Errno{api.OK, api.ErrParts, api.ErrKey, api.ErrMeter, api.ErrBeam, api.ErrTie, api.ErrText, api.ErrSum} {
		if count[e] < 5 {
			t.Errorf("error %d occurs %d times only", e, count[e])
		}
	}
	s := piece(t, "single", "c4/2")
	m := &s.Parts[0].Measures[0]
	m.Voices = append(m.Voices, m.Voices[0], m.Voices[0])
	badText(t, textOf(s), 8, api.ErrVoices)
	m.Voices = [][]api.Event{slices.Repeat([]api.Event{{Value: 16}}, score.MaxEvents+1)}
	badText(t, textOf(s), 6, api.ErrVoices)
	s = piece(t, "single", "c4/2")
	s.Parts = slices.Repeat(s.Parts, api.MaxParts+1)
	badText(t, textOf(s), 15, api.ErrParts)
	s = piece(t, "single", "c4/2")
	s.Bars, s.Free, s.Parts[0].Measures = slices.Repeat(s.Bars, 65), make([]bool, 65), slices.Repeat(s.Parts[0].Measures, 65)
	badText(t, textOf(s), 4+2*65, api.ErrParts)
}

// parseMutant checks Parse for any text by the definition of texts.
func parseMutant(t *testing.T, text string) {
	t.Helper()
	if i := firstBadLine(text); i >= 0 {
		badText(t, text, i, api.ErrForm)
		return
	}
	s, i, e := score.Parse(text)
	if e == api.OK && (i != 0 || textOf(s) != text) || e != api.OK && (e == api.ErrForm || e == api.ErrMany || i != strings.Count(text, "\n") || shown(s) != shown(api.Score{})) {
		t.Fatalf("Parse(%q): %s, %d, %d", text, shown(s), i, e)
	}
	if again, f := score.Format(s); e == api.OK && (f != api.OK || again != text) {
		t.Fatalf("Format of Parse(%q): %q, %d", text, again, f)
	}
}

func TestParseOfMutants(t *testing.T) {
	r := rand.New(rand.NewSource(75))
	for range 3000 {
		text := textOf(tune(r))
		parseMutant(t, mutant(r, text, " \n0123456789abcdefghijklmnopqrstuvwxyz-*+~/.()=#_\xff\x00"))
		lines := strings.SplitAfter(text, "\n")
		for range 1 + r.Intn(2) {
			i, j := r.Intn(len(lines)), r.Intn(len(lines))
			switch r.Intn(3) {
			case 0:
				lines = slices.Insert(lines, i, lines[j])
			case 1:
				lines[i], lines[j] = lines[j], lines[i]
			default:
				lines = slices.Delete(lines, i, i+1)
			}
			if len(lines) == 0 {
				break
			}
		}
		parseMutant(t, strings.Join(lines, ""))
	}
}

// long returns a right score whose text has a number of bytes, about as many as a text may have.
func long(t *testing.T, n int) api.Score {
	t.Helper()
	s := api.Score{Meter: api.Meter{Beats: 2, Unit: 4}, Parts: []api.Part{{Clef: api.Treble}}}
	for range api.MaxBars {
		s.Bars, s.Free = append(s.Bars, api.Open), append(s.Free, true)
		var m api.Measure
		for range 2 {
			var l []api.Event
			for range score.MaxEvents {
				l = append(l, api.Event{Value: 16, Notes: notes(0, 9, 18, 27, 36)})
			}
			m.Voices = append(m.Voices, l)
		}
		s.Parts[0].Measures = append(s.Parts[0].Measures, m)
	}
	rest := n - len(textOf(s))
	for _, m := range s.Parts[0].Measures {
		for _, e := range slices.Concat(m.Voices...) {
			for i := range e.Notes {
				if rest > 0 {
					e.Notes[i].Pitch.Alter = 1
					rest--
				}
			}
		}
	}
	if len(textOf(s)) != n {
		t.Fatalf("a text of %d bytes, not %d", len(textOf(s)), n)
	}
	return s
}

func TestParseLimits(t *testing.T) {
	s := long(t, api.MaxText)
	if back := parsed(t, textOf(s)); !score.Same(back, s) {
		t.Error("the longest text is read as another score")
	}
	s = long(t, api.MaxText+1)
	text, e := score.Format(s)
	if text != textOf(s) || e != api.OK {
		t.Error("Format of a score with a long text", len(text), e)
	}
	badText(t, text, 0, api.ErrMany)
	badText(t, strings.Repeat("x", api.MaxText+1), 0, api.ErrMany)
	badText(t, example+strings.Repeat("\n", api.MaxText+1-len(example)), 0, api.ErrMany)
	badText(t, example+strings.Repeat("\n", api.MaxText-len(example)), 8, api.ErrForm)
	badText(t, strings.Repeat("x", api.MaxText), 0, api.ErrForm)
	badText(t, strings.Repeat("\n", api.MaxText), 0, api.ErrForm)
	badText(t, "key "+strings.Repeat("1", api.MaxText-4), 0, api.ErrForm)
	bars := "key 0\nmeter 2 4\nbars" + strings.Repeat(" open", 26000)
	badText(t, bars+"\n", 3, api.ErrForm)
	badText(t, bars+"\npart alto\nmeasure\nvoice r/2\n", 6, api.ErrParts)
	badText(t, "key 0\nmeter 2 4\nbars open\npart alto\nmeasure\nvoice"+strings.Repeat(" r/2", 32000)+"\n", 6, api.ErrVoices)
}
