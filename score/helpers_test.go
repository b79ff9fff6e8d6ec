package score_test

import (
	"fmt"
	"math"
	"math/rand"
	"slices"
	"strings"
	"testing"

	"custos/api"
	"custos/score"
)

// example is the text of the first example of the chapter.
const example = "key -1\nmeter 3 4\nbars single final\npart treble\nmeasure\nvoice f4/4_la- a4+c5~/8( c5/8) r/4\nmeasure\nvoice bb4/2.\n"

// exampleTree is the tree of the same score.
const exampleTree = "(score (key -1) (meter 3 4) (bars single final) (part treble (measure (voice (note 4 text:la- f4) (note 8 begin a4 c5~) (note 8 end c5) (rest 4))) (measure (voice (note 2 dot bb4)))))"

// whole is the length of a whole note in the units in which the tests count time.
const whole = 96

// extremes has numbers that are too great, or too small, for everything.
var extremes = []int{math.MinInt, math.MinInt + 1, -1 << 32, 1 << 32, math.MaxInt - 1, math.MaxInt}

// allValues has all values.
var allValues = []api.Value{1, 2, 4, 8, 16}

// clefNames, barNames, letters, beamSigns and beamNames have names at the places of their numbers.
var (
	clefNames = []string{"", "treble", "alto", "bass"}
	barNames  = []string{"", "single", "double", "final", "open", "close"}
	letters   = "cdefgab"
	beamSigns = []string{"", "(", "=", ")"}
	beamNames = []string{"", "begin", "in", "end"}
)

// parsed returns the score of a text.
func parsed(t *testing.T, text string) api.Score {
	t.Helper()
	s, i, e := score.Parse(text)
	if e != api.OK || i != 0 {
		t.Fatalf("Parse(%q): line %d, error %d", text, i, e)
	}
	return s
}

// piece returns a score with the key 0, the meter 2/4, and one part, of which there is one measure in each text.
func piece(t *testing.T, bars string, measures ...string) api.Score {
	t.Helper()
	text := "key 0\nmeter 2 4\nbars " + bars + "\npart treble\n"
	for _, m := range measures {
		text += "measure\nvoice " + strings.ReplaceAll(m, " | ", "\nvoice ") + "\n"
	}
	return parsed(t, text)
}

// event returns the event of a word.
func event(t *testing.T, word string) api.Event {
	t.Helper()
	e, errno := score.Unword(word)
	if errno != api.OK {
		t.Fatalf("Unword(%q): error %d", word, errno)
	}
	return e
}

// shown returns all of a value as a text; an empty list and nil look alike.
func shown(x any) string {
	return fmt.Sprintf("%+v", x)
}

// units returns the length of an event in units.
func units(e api.Event) int {
	n := whole / int(e.Value)
	if e.Dot {
		n = n * 3 / 2
	}
	if e.Triple {
		n = n * 2 / 3
	}
	return n
}

// time returns a number of units as a fraction.
func time(n int) api.Ratio {
	d := whole
	for _, p := range []int{2, 2, 2, 2, 2, 3} {
		if n%p == 0 && d%p == 0 {
			n, d = n/p, d/p
		}
	}
	return api.Ratio{N: n, D: d}
}

// times is time for some numbers.
func times(l ...int) []api.Ratio {
	var out []api.Ratio
	for _, n := range l {
		out = append(out, time(n))
	}
	return out
}

// length returns the length of events in units.
func length(l []api.Event) int {
	n := 0
	for _, e := range l {
		n += units(e)
	}
	return n
}

// rhythm returns some events without notes, with a length in units.
func rhythm(r *rand.Rand, n int) []api.Event {
	for {
		var l []api.Event
		rest := n
		for rest > 0 && len(l) < score.MaxEvents {
			e := api.Event{Value: allValues[r.Intn(5)], Dot: r.Intn(4) == 0, Triple: r.Intn(4) == 0}
			if u := units(e); u <= rest {
				l, rest = append(l, e), rest-u
			} else if rest < 4 {
				break
			}
		}
		if rest == 0 {
			return l
		}
	}
}

// chord returns some notes, of which some have the pitches of others.
func chord(r *rand.Rand, others []api.Note) []api.Note {
	var l []api.Note
	step := r.Intn(40)
	for range r.Intn(5) {
		l = append(l, api.Note{Pitch: api.Pitch{Step: step, Alter: r.Intn(3) - 1}})
		step += 1 + r.Intn(9)
	}
	for _, n := range others {
		at, found := slices.BinarySearchFunc(l, n, func(a, b api.Note) int { return a.Pitch.Step - b.Pitch.Step })
		if found {
			l[at] = api.Note{Pitch: n.Pitch}
		} else if len(l) < score.MaxNotes && r.Intn(3) > 0 {
			l = slices.Insert(l, at, api.Note{Pitch: n.Pitch})
		}
	}
	return l
}

// beams puts some events of a voice under beams.
func beams(r *rand.Rand, l []api.Event) {
	for i := 0; i+1 < len(l); i++ {
		j := i
		for j < len(l) && l[j].Value == l[i].Value && l[j].Value >= api.Eighth && len(l[j].Notes) > 0 && r.Intn(6) > 0 {
			j++
		}
		if j-i < 2 {
			continue
		}
		for k := i; k < j; k++ {
			l[k].Beam = api.BeamIn
		}
		l[i].Beam, l[j-1].Beam = api.BeamBegin, api.BeamEnd
		i = j - 1
	}
}

// ties ties some notes of a voice, and may tie those of its last event.
func ties(r *rand.Rand, l []api.Event) {
	for i, e := range l {
		for k, n := range e.Notes {
			ok := i+1 == len(l) || slices.ContainsFunc(l[i+1].Notes, func(m api.Note) bool { return m.Pitch == n.Pitch })
			e.Notes[k].Tie = ok && r.Intn(3) > 0
		}
	}
}

// tune returns a score that is right.
func tune(r *rand.Rand) api.Score {
	s := api.Score{Key: r.Intn(9) - 4, Meter: api.Meter{Beats: 1 + r.Intn(6), Unit: []int{2, 4, 8}[r.Intn(3)]}, Parts: make([]api.Part, 1+r.Intn(3))}
	for p := range s.Parts {
		s.Parts[p].Clef = api.Clef(1 + r.Intn(3))
	}
	for range 1 + r.Intn(5) {
		free := r.Intn(4) == 0
		s.Bars, s.Free = append(s.Bars, api.Bar(1+r.Intn(5))), append(s.Free, free)
		n := whole * s.Meter.Beats / s.Meter.Unit
		if free {
			n = 4 * (2 + r.Intn(30))
		}
		for p := range s.Parts {
			var m api.Measure
			for v := range 1 + r.Intn(2) {
				m.Voices = append(m.Voices, voice(r, n, v))
			}
			s.Parts[p].Measures = append(s.Parts[p].Measures, m)
		}
	}
	return s
}

// voice returns a voice with a length in units and a number.
func voice(r *rand.Rand, n, number int) []api.Event {
	l := rhythm(r, n)
	var before []api.Note
	for i := range l {
		l[i].Notes = chord(r, before)
		before = l[i].Notes
		if number == 0 && len(before) > 0 && r.Intn(3) == 0 {
			l[i].Text = []string{"a", "la", "sol-", "abcd", "z-"}[r.Intn(5)]
		}
	}
	beams(r, l)
	ties(r, l)
	return l
}

// nameOf returns the word of a note.
func nameOf(n api.Note) string {
	tie := ""
	if n.Tie {
		tie = "~"
	}
	return fmt.Sprintf("%c%s%d%s", letters[n.Pitch.Step%7], []string{"b", "", "#"}[n.Pitch.Alter+1], n.Pitch.Step/7, tie)
}

// namesOf returns the words of notes.
func namesOf(l []api.Note) []string {
	var names []string
	for _, n := range l {
		names = append(names, nameOf(n))
	}
	return names
}

// wordOf returns the word of an event that has one.
func wordOf(e api.Event) string {
	notes, dot, triple, text := "r", "", "", ""
	if len(e.Notes) > 0 {
		notes = strings.Join(namesOf(e.Notes), "+")
	}
	if e.Dot {
		dot = "."
	}
	if e.Triple {
		triple = "t"
	}
	if e.Text != "" {
		text = "_" + e.Text
	}
	return fmt.Sprintf("%s/%d%s%s%s%s", notes, e.Value, dot, triple, beamSigns[e.Beam], text)
}

// barsOf returns the words of the barlines of a score.
func barsOf(s api.Score) string {
	var l []string
	for m, b := range s.Bars {
		star := ""
		if m < len(s.Free) && s.Free[m] {
			star = "*"
		}
		l = append(l, barNames[b]+star)
	}
	return strings.Join(l, " ")
}

// textOf returns the text of a score, which need not be right.
func textOf(s api.Score) string {
	var b strings.Builder
	fmt.Fprintf(&b, "key %d\nmeter %d %d\nbars %s\n", s.Key, s.Meter.Beats, s.Meter.Unit, barsOf(s))
	for _, p := range s.Parts {
		fmt.Fprintf(&b, "part %s\n", clefNames[p.Clef])
		for _, m := range p.Measures {
			fmt.Fprint(&b, "measure\n")
			for _, l := range m.Voices {
				fmt.Fprint(&b, "voice")
				for _, e := range l {
					fmt.Fprintf(&b, " %s", wordOf(e))
				}
				fmt.Fprint(&b, "\n")
			}
		}
	}
	return b.String()
}

// treeOf returns the tree of a score, which need not be right.
func treeOf(s api.Score) string {
	var b strings.Builder
	fmt.Fprintf(&b, "(score (key %d) (meter %d %d) (bars %s)", s.Key, s.Meter.Beats, s.Meter.Unit, barsOf(s))
	for _, p := range s.Parts {
		fmt.Fprintf(&b, " (part %s", clefNames[p.Clef])
		for _, m := range p.Measures {
			fmt.Fprint(&b, " (measure")
			for _, l := range m.Voices {
				fmt.Fprint(&b, " (voice")
				for _, e := range l {
					fmt.Fprintf(&b, " %s", listOf(e))
				}
				fmt.Fprint(&b, ")")
			}
			fmt.Fprint(&b, ")")
		}
		fmt.Fprint(&b, ")")
	}
	return b.String() + ")"
}

// listOf returns the tree of an event.
func listOf(e api.Event) string {
	l := []string{"rest", fmt.Sprint(int(e.Value))}
	if len(e.Notes) > 0 {
		l[0] = "note"
	}
	if e.Dot {
		l = append(l, "dot")
	}
	if e.Triple {
		l = append(l, "triple")
	}
	if e.Beam > 0 {
		l = append(l, beamNames[e.Beam])
	}
	if e.Text != "" {
		l = append(l, "text:"+e.Text)
	}
	return "(" + strings.Join(append(l, namesOf(e.Notes)...), " ") + ")"
}

// scribble changes all elements of all lists of a score, and what lies behind them.
func scribble(s api.Score) {
	for m := range s.Bars {
		s.Bars[m] += 7
	}
	_ = append(s.Bars, 77)
	for m := range s.Free {
		s.Free[m] = !s.Free[m]
	}
	_ = append(s.Free, true)
	for _, p := range s.Parts {
		for _, m := range p.Measures {
			for _, l := range m.Voices {
				for e := range l {
					scribbleEvent(&l[e])
				}
				_ = append(l, api.Event{Value: 77})
			}
			clear(m.Voices)
			_ = append(m.Voices, nil)
		}
		clear(p.Measures)
		_ = append(p.Measures, api.Measure{})
	}
	clear(s.Parts)
	_ = append(s.Parts, api.Part{})
}

// scribbleEvent changes an event and all its notes.
func scribbleEvent(e *api.Event) {
	for n := range e.Notes {
		e.Notes[n] = api.Note{Pitch: api.Pitch{Step: -7}, Tie: !e.Notes[n].Tie}
	}
	_ = append(e.Notes, api.Note{})
	*e = api.Event{Value: 7}
}

// wrong returns a score that is not right, and its error.
func wrong(t *testing.T) (api.Score, api.Errno) {
	t.Helper()
	s := parsed(t, example)
	s.Parts[0].Measures[1].Voices[0][0].Notes[0].Pitch.Alter = 2
	return s, api.ErrPitch
}
