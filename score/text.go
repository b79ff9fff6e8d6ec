package score

import (
	"slices"
	"strconv"
	"strings"

	"custos/api"
)

// Format returns the text of a score.
func Format(s api.Score) (string, api.Errno) {
	if _, e := Check(s); e != api.OK {
		return "", e
	}
	lines := []string{
		line([]string{"key", strconv.Itoa(s.Key)}),
		line([]string{"meter", strconv.Itoa(s.Meter.Beats), strconv.Itoa(s.Meter.Unit)}),
		line([]string{"bars"}, mapped(barlines(s), barline.word)),
	}
	for _, p := range s.Parts {
		lines = append(lines, line([]string{"part", clefs().word(p.Clef)}))
		for _, m := range p.Measures {
			lines = append(lines, line([]string{"measure"}))
			for _, l := range m.Voices {
				lines = append(lines, line([]string{"voice"}, mapped(l, eventWord)))
			}
		}
	}
	return strings.Join(lines, ""), api.OK
}

// line returns a line of a text that has all words of some lists.
func line(words ...[]string) string {
	return strings.Join(slices.Concat(words...), " ") + "\n"
}

// Parse returns the score of a text.
func Parse(text string) (api.Score, int, api.Errno) {
	lineAt := func(at int) int { return strings.Count(text[:at], "\n") }
	return readScore(&reader{text: text, stops: " \n"}, readText, lineAt)
}

// readText reads the text of a score.
func readText(r *reader) api.Score {
	var s api.Score
	r.expect("key", " ")
	s.Key = read(r, numberOfWord)
	r.expect("\n", "meter", " ")
	s.Meter.Beats = read(r, numberOfWord)
	r.expect(" ")
	s.Meter.Unit = read(r, numberOfWord)
	r.expect("\n", "bars")
	r.some(" ", func() {
		b := read(r, barlineOfWord)
		s.Bars, s.Free = append(s.Bars, b.bar), append(s.Free, b.free)
	})
	r.expect("\n")
	r.some("part", func() {
		s.Parts = append(s.Parts, readPart(r))
	})
	r.expect("")
	return s
}

// readPart reads the lines of a part, from behind the first word on.
func readPart(r *reader) api.Part {
	var p api.Part
	r.expect(" ")
	p.Clef = read(r, clefs().meaning)
	r.expect("\n")
	r.some("measure", func() {
		var m api.Measure
		r.expect("\n")
		r.some("voice", func() {
			var l []api.Event
			r.some(" ", func() { l = append(l, read(r, eventOfWord)) })
			r.expect("\n")
			m.Voices = append(m.Voices, l)
		})
		p.Measures = append(p.Measures, m)
	})
	return p
}
