package grammar

import (
	"slices"

	"custos/api"
	"custos/cell"
)

const maxColumns = 20

// reader reads the cells of a measure.
type reader struct {
	Frame
	cells  [][]api.Cell
	staves [][]voice // the one or two voices of each staff
}

// broken says which rule is broken, and where.
type broken struct {
	errno api.Errno
	at    Spot
}

// Read returns the measures of cells.
func Read(f Frame, l [][]api.Cell) (m []api.Measure, at Spot, e api.Errno) {
	if e = Check(f); e != api.OK {
		return nil, Spot{}, e
	}
	if at, e = checkCells(f, l); e != api.OK {
		return nil, at, e
	}
	defer func() {
		if b, ok := recover().(broken); ok {
			m, at, e = nil, b.at, b.errno
		}
	}()
	r := newReader(f, l)
	r.check()
	return r.measures(), Spot{}, api.OK
}

// breakIf ends the reading, if a rule is broken.
func breakIf(wrong bool, e api.Errno, at Spot) {
	if wrong {
		panic(broken{e, at})
	}
}

// checkCells reports whether cells may be read at all with a frame that is valid.
func checkCells(f Frame, l [][]api.Cell) (Spot, api.Errno) {
	switch {
	case len(l) != len(f.Clefs) || slices.ContainsFunc(l, func(staff []api.Cell) bool { return len(staff) != len(l[0]) }):
		return Spot{}, api.ErrParts
	case !within(len(l[0]), 1, maxColumns):
		return Spot{}, api.ErrWide
	}
	for s, staff := range l {
		for column, c := range staff {
			if c.Kind != api.EventCell || cell.Check(c) != api.OK {
				return Spot{Staff: s, Column: column}, api.ErrCell
			}
		}
	}
	return Spot{}, api.OK
}

// newReader returns a reader of cells that are valid.
func newReader(f Frame, l [][]api.Cell) *reader {
	r := &reader{Frame: f, cells: l}
	for s, staff := range l {
		r.staves = append(r.staves, voicesOf(s, staff))
	}
	return r
}

// measures returns what is read, if no rule is broken.
func (r *reader) measures() []api.Measure {
	l := make([]api.Measure, len(r.staves))
	for s, staff := range r.staves {
		for _, v := range staff {
			var events []api.Event
			for p := range v.events() {
				events = append(events, p.event())
			}
			l[s].Voices = append(l[s].Voices, events)
		}
	}
	return l
}
