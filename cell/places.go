package cell

import (
	"iter"
	"slices"

	"custos/api"
	"custos/font"
)

// The zones for rests.
const (
	middle = 0
	upper  = 1
	lower  = 2
	zones  = 3
)

// The sides of a cell.
const (
	up    = 0
	down  = 1
	sides = 2
)

const (
	beams         = 4
	keySigns      = 4
	middleStep    = 4
	leastDistance = 2 // of two heads
)

// question is what is asked by the features with one What: those of a kind, with the Indices from first to last, and the values from least to most.
type question struct {
	kind        api.Kind
	set         font.Set // of what stands in the window, if that is a glyph
	first, last int
	least, most int
	powers      bool // only 0 and the powers of two are values
}

var questions = [...]question{
	api.WClef:    {kind: api.ClefCell, set: font.Clefs, least: 1, most: 3},
	api.WKey:     {kind: api.KeyCell, set: font.Accs, last: 3, most: 2},
	api.WBeats:   {kind: api.MeterCell, set: font.Digits, least: 1, most: 9},
	api.WUnit:    {kind: api.MeterCell, set: font.Digits, least: 2, most: 8, powers: true},
	api.WBar:     {kind: api.BarCell, set: font.Bars, least: 1, most: 5},
	api.WFree:    {kind: api.BarCell, set: font.Marks, most: 1},
	api.WHead:    {kind: api.EventCell, set: font.Heads, first: lowest, last: highest, least: 1, most: 3},
	api.WAcc:     {kind: api.EventCell, set: font.Accs, first: lowest, last: highest, most: 3},
	api.WDot:     {kind: api.EventCell, set: font.Dots, first: lowest, last: highest, most: 1},
	api.WTie:     {kind: api.EventCell, set: font.Ties, first: lowest, last: highest, most: 1},
	api.WRest:    {kind: api.EventCell, set: font.Rests, last: 2, most: 16, powers: true},
	api.WRestDot: {kind: api.EventCell, set: font.Dots, last: 2, most: 1},
	api.WStem:    {kind: api.EventCell, last: 1, most: 1},
	api.WBeam:    {kind: api.EventCell, last: 3, most: 4},
	api.WTriple:  {kind: api.EventCell, set: font.Digits, last: 1, most: 1},
	api.WText:    {kind: api.EventCell, set: font.Letters, last: 3, most: 27},
}

// groups returns the order of the features of a kind: all of a group is asked at an Index before it is asked at the next one.
func groups(kind api.Kind) [][]api.What {
	switch kind {
	case api.ClefCell:
		return [][]api.What{{api.WClef}}
	case api.KeyCell:
		return [][]api.What{{api.WKey}}
	case api.MeterCell:
		return [][]api.What{{api.WBeats}, {api.WUnit}}
	case api.BarCell:
		return [][]api.What{{api.WBar}, {api.WFree}}
	}
	return [][]api.What{
		{api.WHead, api.WAcc, api.WDot, api.WTie},
		{api.WRest, api.WRestDot},
		{api.WStem}, {api.WBeam}, {api.WTriple}, {api.WText},
	}
}

// isKind reports whether there is such a kind of cells.
func isKind(k api.Kind) bool {
	return within(k, api.ClefCell, api.BarCell)
}

// isPlace reports whether there is a feature with this What and this Index.
func isPlace(w api.What, index int) bool {
	return within(w, api.WClef, api.WText) && within(index, questions[w].first, questions[w].last)
}

// answers reports whether a value may be that of a feature.
func answers(w api.What, value int) bool {
	return within(value, questions[w].least, questions[w].most) && (!questions[w].powers || value&(value-1) == 0)
}

// values yields the values that a feature may have, in increasing order.
func values(w api.What) iter.Seq[int] {
	return func(yield func(int) bool) {
		for value := questions[w].least; value <= questions[w].most; value++ {
			if answers(w, value) && !yield(value) {
				return
			}
		}
	}
}

// places yields the places of the features of a kind, if these heads are seen.
func places(kind api.Kind, heads []api.Head) iter.Seq[api.Place] {
	return func(yield func(api.Place) bool) {
		for _, group := range groups(kind) {
			for index := questions[group[0]].first; index <= questions[group[0]].last; index++ {
				for _, w := range group {
					if asked(group[0], index, heads) && !yield(api.Place{What: w, Index: index}) {
						return
					}
				}
			}
		}
	}
}

// asked reports whether the features of a group that begins with w are asked at an Index.
func asked(w api.What, index int, heads []api.Head) bool {
	switch w {
	case api.WHead:
		return slices.ContainsFunc(heads, func(h api.Head) bool { return h.Step == index })
	case api.WRest:
		return open(index, heads)
	}
	return true
}
