package score

import (
	"strconv"
	"strings"

	"custos/api"
	"custos/tone"
)

const (
	maxDigits = 9 // of a number
	maxLength = 4 // of the text of an event
)

// vocabulary says what words mean. No two of its words mean the same.
type vocabulary[T comparable] map[string]T

// barline is the end of a measure.
type barline struct {
	bar  api.Bar
	free bool
}

// Word returns the word of an event.
func Word(e api.Event) (string, api.Errno) {
	switch {
	case noValue(e):
		return "", api.ErrValue
	case tooManyNotes(e) || notIncreasing(e):
		return "", api.ErrChord
	case noPitch(e):
		return "", api.ErrPitch
	case noBeam(e):
		return "", api.ErrBeam
	case noText(e):
		return "", api.ErrText
	}
	return eventWord(e), api.OK
}

// eventWord returns the word of an event that has one.
func eventWord(e api.Event) string {
	w := "r"
	if !isRest(e) {
		w = strings.Join(mapped(e.Notes, noteWord), "+")
	}
	w += "/" + values().word(e.Value)
	if e.Dot {
		w += "."
	}
	if e.Triple {
		w += "t"
	}
	w += beamSigns().word(e.Beam)
	if e.Text != "" {
		w += "_" + e.Text
	}
	return w
}

// Unword returns the event of a word.
func Unword(w string) (api.Event, api.Errno) {
	e := guess(w)
	if word, errno := Word(e); errno != api.OK || word != w {
		return api.Event{}, api.ErrForm
	}
	return e, api.OK
}

// guess returns the event of a word, or any event that has another word, or none.
func guess(w string) api.Event {
	var e api.Event
	notes, rest, _ := strings.Cut(w, "/")
	if notes != "r" {
		for _, name := range strings.Split(notes, "+") {
			n, _ := noteOfWord(name)
			e.Notes = append(e.Notes, n)
		}
	}
	rest, e.Text, _ = strings.Cut(rest, "_")
	value := rest[:len(rest)-len(strings.TrimLeft(rest, "0123456789"))]
	e.Value = values()[value]
	rest, e.Dot = strings.CutPrefix(rest[len(value):], ".")
	rest, e.Triple = strings.CutPrefix(rest, "t")
	e.Beam = beamSigns()[rest]
	return e
}

// eventOfWord returns the event of a word, and whether there is one.
func eventOfWord(w string) (api.Event, bool) {
	e, errno := Unword(w)
	return e, errno == api.OK
}

// noteWord returns the word of a note.
func noteWord(n api.Note) string {
	name, _ := tone.Name(n.Pitch)
	if n.Tie {
		name += "~"
	}
	return name
}

// noteOfWord returns the note of a word, and whether there is one.
func noteOfWord(w string) (api.Note, bool) {
	name, tie := strings.CutSuffix(w, "~")
	p, errno := tone.Parse(name)
	return api.Note{Pitch: p, Tie: tie}, errno == api.OK
}

// barlines returns the barlines of a score.
func barlines(s api.Score) []barline {
	var l []barline
	for m, b := range s.Bars {
		l = append(l, barline{b, s.Free[m]})
	}
	return l
}

// word returns the word of a barline.
func (b barline) word() string {
	w := barNames().word(b.bar)
	if b.free {
		w += "*"
	}
	return w
}

// barlineOfWord returns the barline of a word, and whether there is one.
func barlineOfWord(w string) (barline, bool) {
	name, free := strings.CutSuffix(w, "*")
	b, ok := barNames().meaning(name)
	return barline{b, free}, ok
}

// numberOfWord returns the number of a word, and whether there is one.
func numberOfWord(w string) (int, bool) {
	n, err := strconv.Atoi(w)
	// Atoi takes words that are no numbers of a text, too.
	return n, err == nil && strconv.Itoa(n) == w && len(strings.TrimPrefix(w, "-")) <= maxDigits
}

// isText reports whether a text may stand under a note.
func isText(t string) bool {
	letters := strings.TrimSuffix(t, "-")
	return len(t) <= maxLength && letters != "" && strings.Trim(letters, "abcdefghijklmnopqrstuvwxyz") == ""
}

// meaning returns what a word means, and whether it means something.
func (v vocabulary[T]) meaning(word string) (T, bool) {
	m, ok := v[word]
	return m, ok
}

// word returns the word with a meaning, or no word.
func (v vocabulary[T]) word(meaning T) string {
	for w, m := range v {
		if m == meaning {
			return w
		}
	}
	return ""
}

func clefs() vocabulary[api.Clef] {
	return vocabulary[api.Clef]{"treble": api.Treble, "alto": api.Alto, "bass": api.Bass}
}

func barNames() vocabulary[api.Bar] {
	return vocabulary[api.Bar]{"single": api.Single, "double": api.Double, "final": api.Final, "open": api.Open, "close": api.Close}
}

func values() vocabulary[api.Value] {
	return vocabulary[api.Value]{"1": api.Whole, "2": api.Half, "4": api.Quarter, "8": api.Eighth, "16": api.Sixteenth}
}

// beamSigns has the words for beams in the word of an event.
func beamSigns() vocabulary[api.Beam] {
	return vocabulary[api.Beam]{"(": api.BeamBegin, "=": api.BeamIn, ")": api.BeamEnd}
}
