package score

import (
	"slices"
	"strconv"
	"strings"

	"custos/api"
)

// textFlag is what stands before the text of an event.
const textFlag = "text:"

// Encode returns the tree of a score.
func Encode(s api.Score) (string, api.Errno) {
	if _, e := Check(s); e != api.OK {
		return "", e
	}
	begin := []string{
		"score",
		list([]string{"key", strconv.Itoa(s.Key)}),
		list([]string{"meter", strconv.Itoa(s.Meter.Beats), strconv.Itoa(s.Meter.Unit)}),
		list([]string{"bars"}, mapped(barlines(s), barline.word)),
	}
	return list(begin, mapped(s.Parts, partTree)), api.OK
}

// list returns a list of a tree that has all words and lists of some lists.
func list(items ...[]string) string {
	return "(" + strings.Join(slices.Concat(items...), " ") + ")"
}

// partTree returns the tree of a part.
func partTree(p api.Part) string {
	return list([]string{"part", clefs().word(p.Clef)}, mapped(p.Measures, measureTree))
}

// measureTree returns the tree of a measure.
func measureTree(m api.Measure) string {
	return list([]string{"measure"}, mapped(m.Voices, voiceTree))
}

// voiceTree returns the tree of a voice.
func voiceTree(l []api.Event) string {
	return list([]string{"voice"}, mapped(l, eventTree))
}

// eventTree returns the tree of an event.
func eventTree(e api.Event) string {
	return list([]string{kinds().word(isRest(e)), values().word(e.Value)}, flags(e), mapped(e.Notes, noteWord))
}

// flags returns the flags of an event.
func flags(e api.Event) []string {
	var l []string
	if e.Dot {
		l = append(l, "dot")
	}
	if e.Triple {
		l = append(l, "triple")
	}
	if e.Beam != api.NoBeam {
		l = append(l, beamNames().word(e.Beam))
	}
	if e.Text != "" {
		l = append(l, textFlag+e.Text)
	}
	return l
}

// Decode returns the score of a tree.
func Decode(text string) (api.Score, int, api.Errno) {
	return readScore(&reader{text: text, stops: "() \n", blanks: " \n"}, readTree, func(at int) int { return at })
}

// readTree reads the tree of a score.
func readTree(r *reader) api.Score {
	var s api.Score
	r.list("score", func() {
		r.list("key", func() { s.Key = read(r, numberOfWord) })
		r.list("meter", func() { s.Meter = api.Meter{Beats: read(r, numberOfWord), Unit: read(r, numberOfWord)} })
		r.list("bars", func() {
			for _, b := range readAll(r, barlineOfWord) {
				s.Bars, s.Free = append(s.Bars, b.bar), append(s.Free, b.free)
			}
		})
		r.lists("part", func() { s.Parts = append(s.Parts, readPartTree(r)) })
	})
	r.expect("")
	return s
}

// readPartTree reads what the list of a part has behind its first word.
func readPartTree(r *reader) api.Part {
	p := api.Part{Clef: read(r, clefs().meaning)}
	r.lists("measure", func() {
		var m api.Measure
		r.lists("voice", func() {
			var l []api.Event
			r.some("(", func() { l = append(l, readEventTree(r)) })
			m.Voices = append(m.Voices, l)
		})
		p.Measures = append(p.Measures, m)
	})
	return p
}

// readEventTree reads what the list of an event has behind its opening bracket.
func readEventTree(r *reader) api.Event {
	var e api.Event
	rest := read(r, kinds().meaning)
	e.Value = read(r, values().meaning)
	e.Dot, e.Triple = r.has("dot"), r.has("triple")
	e.Beam = readIf(r, beamNames().meaning)
	e.Text = readIf(r, textOfFlag)
	if !rest {
		e.Notes = readAll(r, noteOfWord)
	}
	r.expect(")")
	return e
}

// textOfFlag returns the text of a flag, and whether there is one.
func textOfFlag(w string) (string, bool) {
	t, ok := strings.CutPrefix(w, textFlag)
	return t, ok && isText(t)
}

// kinds has the words for events that are no rests, and for those that are.
func kinds() vocabulary[bool] {
	return vocabulary[bool]{"note": false, "rest": true}
}

// beamNames has the words for beams in a tree.
func beamNames() vocabulary[api.Beam] {
	return vocabulary[api.Beam]{"begin": api.BeamBegin, "in": api.BeamIn, "end": api.BeamEnd}
}

// list reads a list with a name, of which a function reads what stands behind its name.
func (r *reader) list(name string, inside func()) {
	r.expect("(", name)
	inside()
	r.expect(")")
}

// lists reads lists with a name, as many as there are, but at least one.
func (r *reader) lists(name string, inside func()) {
	r.some("(", func() {
		r.expect(name)
		inside()
		r.expect(")")
	})
}

// readAll returns what words mean, as many as there are in the rest of a list, but at least one.
func readAll[T any](r *reader, meaning func(word string) (T, bool)) []T {
	var l []T
	for more := true; more; more = r.peek() != ")" {
		l = append(l, read(r, meaning))
	}
	return l
}
