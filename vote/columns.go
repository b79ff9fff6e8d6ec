package vote

import (
	"slices"

	"custos/api"
	"custos/score"
)

// sheet is a column that is ready to be compared.
type sheet struct {
	Column
	weight int
	voices [][]chord // two for each part
}

// Columns returns the columns of a score.
func Columns(s api.Score) ([]Column, api.Errno) {
	if _, e := score.Check(s); e != api.OK {
		return nil, e
	}
	return columns(score.Copy(s)), api.OK
}

// columns returns the columns of a right score, which share its measures.
func columns(s api.Score) []Column {
	l := make([]Column, len(s.Bars))
	for i := range l {
		l[i] = Column{Bar: s.Bars[i], Free: s.Free[i]}
		for _, p := range s.Parts {
			l[i].Measures = append(l[i].Measures, p.Measures[i])
		}
	}
	return l
}

// Apart returns the distance of two columns.
func Apart(a, b Column) (int, api.Errno) {
	switch {
	case len(a.Measures) != len(b.Measures):
		return 0, api.ErrAlign
	case tooLarge(a) || tooLarge(b):
		return 0, api.ErrMany
	}
	return newSheet(a).distance(newSheet(b)), api.OK
}

// Heavy returns the weight of a column.
func Heavy(c Column) (int, api.Errno) {
	if tooLarge(c) {
		return 0, api.ErrMany
	}
	return newSheet(c).weight, api.OK
}

// tooLarge reports whether a column has more of something than it may have.
func tooLarge(c Column) bool {
	longVoice := func(l []api.Event) bool { return len(l) > score.MaxEvents }
	largeMeasure := func(m api.Measure) bool { return len(m.Voices) > 2 || slices.ContainsFunc(m.Voices, longVoice) }
	return len(c.Measures) > api.MaxParts || slices.ContainsFunc(c.Measures, largeMeasure)
}

// sheets returns the columns of a right score.
func sheets(s api.Score) []sheet {
	return mapped(columns(s), newSheet)
}

// newSheet returns a column that is ready to be compared.
func newSheet(c Column) sheet {
	s := sheet{Column: c, weight: 2, voices: make([][]chord, 2*len(c.Measures))}
	for p, m := range c.Measures {
		for v, l := range m.Voices {
			s.voices[2*p+v] = mapped(l, newChord)
			for _, c := range s.voices[2*p+v] {
				s.weight += c.weight
			}
		}
	}
	return s
}

// distance returns the distance of two columns with as many parts.
func (s sheet) distance(t sheet) int {
	n := differing(s.Bar != t.Bar, s.Free != t.Free)
	for i := range s.voices {
		n += last(ofChords(s.voices[i], t.voices[i]).table())
	}
	return n
}

// ofSheets returns what aligns two scores.
func ofSheets(a, b []sheet) aligner[sheet] {
	return aligner[sheet]{a: a, b: b, weight: func(s sheet) int { return s.weight }, distance: sheet.distance}
}
