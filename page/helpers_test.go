package page_test

import (
	"bytes"
	"fmt"
	"math"
	"math/rand"
	"reflect"
	"slices"
	"strings"
	"testing"

	"custos/api"
	"custos/score"
)

// chapter is the text of the score of the chapter's first example, of which the second note stands in the place of %.
const chapter = "key 1\nmeter 2 4\nbars single\npart treble\nmeasure\nvoice e4/8( %/8) r/4\n"

// whole is the length of a whole note in the units in which the tests count time.
const whole = 96

// extremes has numbers that are too great, or too small, for everything.
var extremes = []int{math.MinInt, math.MinInt + 1, -1 << 32, -1000, 1000, 1 << 32, math.MaxInt - 1, math.MaxInt}

// bases has the Steps of the bottom lines of the clefs.
var bases = [...]int{api.Treble: 30, api.Alto: 24, api.Bass: 18}

// staffLines has the rows of the staff lines of a strip.
var staffLines = []int{36, 42, 48, 54, 60}

// parsed returns the score of a text.
func parsed(t *testing.T, text string) api.Score {
	t.Helper()
	s, line, e := score.Parse(text)
	if e != api.OK {
		t.Fatalf("Parse(%q): line %d, error %d", text, line, e)
	}
	return s
}

// piece returns a score with the key 0, a meter and some bars. Each part is a text of its clef and its measures, with a bar between two of these, and a semicolon between voices.
func piece(t *testing.T, meter, bars string, parts ...string) api.Score {
	t.Helper()
	text := "key 0\nmeter " + meter + "\nbars " + bars + "\n"
	for _, p := range parts {
		clef, measures, _ := strings.Cut(p, " ")
		text += "part " + clef + "\n"
		for _, m := range strings.Split(measures, " | ") {
			text += "measure\nvoice " + strings.ReplaceAll(m, " ; ", "\nvoice ") + "\n"
		}
	}
	return parsed(t, text)
}

// long returns a score of one part and so many measures with so many columns each.
func long(t *testing.T, measures, columns int) api.Score {
	t.Helper()
	m := strings.TrimSpace(strings.Repeat("r/16 ", columns))
	bars := strings.TrimSpace(strings.Repeat("single* ", measures))
	return piece(t, "1 4", bars, "treble "+strings.Join(slices.Repeat([]string{m}, measures), " | "))
}

// same compares two values; empty lists and nil are the same.
func same(a, b any) bool {
	return fmt.Sprintf("%+v", a) == fmt.Sprintf("%+v", b)
}

// zero reports whether a value is the zero value of its type, or an empty list.
func zero(x any) bool {
	v := reflect.ValueOf(x)
	return v.IsZero() || v.Kind() == reflect.Slice && v.Len() == 0
}

// sameInk compares two images.
func sameInk(a, b api.Ink) bool {
	return a.W == b.W && a.H == b.H && bytes.Equal(a.Pix, b.Pix)
}

// has reports whether an image has ink at a point.
func has(k api.Ink, x, y int) bool {
	return x >= 0 && x < k.W && y >= 0 && y < k.H && k.Pix[y*k.W+x] == 1
}

// invalid returns images that are not valid.
func invalid() []api.Ink {
	return []api.Ink{
		{W: 1, Pix: []byte{0}}, {W: 2, H: 2, Pix: make([]byte, 3)}, {W: 2, H: 2, Pix: make([]byte, 5)}, {W: 1, H: 2, Pix: []byte{0, 2}}, {W: 1, H: 1, Pix: []byte{255}},
		{W: -1, H: -1, Pix: []byte{1}}, {W: 641, H: 1, Pix: make([]byte, 641)}, {W: 1, H: 641, Pix: make([]byte, 641)}, {W: 641}, {H: 641}, {W: math.MinInt, H: math.MaxInt, Pix: []byte{1}},
	}
}

// units returns the length of an event in units.
func units(e api.Event) int {
	n := whole / int(e.Value)
	if e.Dot {
		n = n * 3 / 2
	}
	if e.Triple {
		n = n * 2 / 3
	}
	return n
}

// time returns a number of units as a fraction.
func time(n int) api.Ratio {
	d := whole
	for _, p := range []int{2, 2, 2, 2, 2, 3} {
		if n%p == 0 && d%p == 0 {
			n, d = n/p, d/p
		}
	}
	return api.Ratio{N: n, D: d}
}

// onsetsOf returns the onsets of events in units.
func onsetsOf(l []api.Event) []int {
	var out []int
	now := 0
	for _, e := range l {
		out = append(out, now)
		now += units(e)
	}
	return out
}

// tune returns a score that is right, and often fits; a wild one often does not.
func tune(r *rand.Rand, wild bool) api.Score {
	s := api.Score{Key: r.Intn(9) - 4, Meter: api.Meter{Beats: 1 + r.Intn(3), Unit: []int{4, 4, 8}[r.Intn(3)]}}
	parts := 1 + r.Intn(3)
	s.Parts = make([]api.Part, parts)
	for p := range s.Parts {
		s.Parts[p].Clef = api.Clef(1 + r.Intn(3))
	}
	for range 1 + r.Intn(12/parts) {
		length, free := whole*s.Meter.Beats/s.Meter.Unit, r.Intn(4) == 0
		if free {
			length = 12 * (1 + r.Intn(12))
			if wild {
				length *= 1 + r.Intn(2)
			}
		}
		s.Bars, s.Free = append(s.Bars, api.Bar(1+r.Intn(5))), append(s.Free, free)
		for p := range s.Parts {
			part := &s.Parts[p]
			part.Measures = append(part.Measures, measure(r, bases[part.Clef], length, wild))
		}
	}
	return s
}

// measure returns a measure of a length in units, for a clef with a base.
func measure(r *rand.Rand, base, length int, wild bool) api.Measure {
	if r.Intn(3) > 0 {
		return api.Measure{Voices: [][]api.Event{melody(r, base-4, base+12, length, wild, true)}}
	}
	for {
		first, second := melody(r, base+5, base+12, length, wild, true), melody(r, base-4, base+3, length, wild, false)
		if wild || !hasWhole(first) && !hasWhole(second) {
			return api.Measure{Voices: [][]api.Event{first, second}}
		}
	}
}

// hasWhole reports whether one of some events is a whole note or a whole rest.
func hasWhole(l []api.Event) bool {
	return slices.ContainsFunc(l, func(e api.Event) bool { return e.Value == api.Whole })
}

// melody returns a voice whose notes have Steps in some limits.
func melody(r *rand.Rand, least, most, length int, wild, texts bool) []api.Event {
	l := rhythm(r, length)
	gap := 2
	if wild && r.Intn(60) == 0 {
		gap = 1
	}
	for i := range l {
		low, high := least, most
		if wild && r.Intn(100) == 0 {
			low, high = least-2, most+2
		}
		switch {
		case i > 0 && r.Intn(3) == 0:
			l[i].Notes = slices.Clone(l[i-1].Notes)
		case r.Intn(4) > 0:
			l[i].Notes = chord(r, low, high, gap)
		}
		if texts && len(l[i].Notes) > 0 && r.Intn(3) == 0 {
			l[i].Text = []string{"a", "la", "sol-", "abcd", "z-"}[r.Intn(5)]
		}
	}
	tie(r, l)
	beam(r, l)
	return l
}

// rhythm returns some events with a length in units, which is a multiple of 4.
func rhythm(r *rand.Rand, length int) []api.Event {
	triples := r.Intn(4) == 0
	for {
		var l []api.Event
		left := length
		for range 40 {
			e := api.Event{Value: 1 << r.Intn(5), Dot: r.Intn(5) == 0, Triple: triples && r.Intn(2) == 0}
			if n := units(e); n <= left {
				l, left = append(l, e), left-n
			}
			if left == 0 {
				return l
			}
		}
	}
}

// chord returns notes whose Steps are in some limits, with at least a gap between two.
func chord(r *rand.Rand, least, most, gap int) []api.Note {
	var l []api.Note
	for step := least + r.Intn(most-least+1); step <= most && len(l) < score.MaxNotes; step += gap + r.Intn(6) {
		l = append(l, api.Note{Pitch: api.Pitch{Step: step, Alter: r.Intn(3) - 1}})
	}
	return l
}

// tie ties some notes of a voice.
func tie(r *rand.Rand, l []api.Event) {
	for i, e := range l {
		for k := range e.Notes {
			goesOn := i+1 == len(l) || slices.ContainsFunc(l[i+1].Notes, func(n api.Note) bool { return n.Pitch == e.Notes[k].Pitch })
			e.Notes[k].Tie = goesOn && r.Intn(2) == 0
		}
	}
}

// beam puts some events of a voice under beams.
func beam(r *rand.Rand, l []api.Event) {
	for from := 0; from < len(l); {
		to := from
		for to < len(l) && l[to].Value == l[from].Value && l[to].Value >= api.Eighth && len(l[to].Notes) > 0 && r.Intn(5) > 0 {
			to++
		}
		if to-from < 2 {
			from++
			continue
		}
		for i := from; i < to; i++ {
			l[i].Beam = api.BeamIn
		}
		l[from].Beam, l[to-1].Beam = api.BeamBegin, api.BeamEnd
		from = to
	}
}

// fitting returns some scores that fit.
func fitting(seed int64, n int) []api.Score {
	r := rand.New(rand.NewSource(seed))
	var l []api.Score
	for len(l) < n {
		s := tune(r, false)
		if _, e := fitsBy(s); e == api.OK {
			l = append(l, s)
		}
	}
	return l
}

// scribble changes all elements of the lists of a score.
func scribble(s api.Score) {
	for i := range s.Bars {
		s.Bars[i], s.Free[i] = 7, !s.Free[i]
	}
	for _, p := range s.Parts {
		for _, m := range p.Measures {
			for _, l := range m.Voices {
				for _, e := range l {
					clear(e.Notes)
				}
				clear(l)
			}
			clear(m.Voices)
		}
		clear(p.Measures)
	}
	clear(s.Parts)
}

// wrong returns a score that is not right, the spot and the error.
func wrong(t *testing.T) (api.Score, score.Spot, api.Errno) {
	t.Helper()
	s := piece(t, "1 4", "single single", "treble e4/4 | r/8 e4/8", "bass r/4 | e3/8 r/8")
	s.Parts[1].Measures[1].Voices[0][1].Value = 3
	return s, score.Spot{Part: 1, Measure: 1, Event: 1}, api.ErrValue
}
