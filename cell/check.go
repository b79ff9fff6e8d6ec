package cell

import (
	"slices"
	"strings"

	"custos/api"
)

const (
	maxKey    = 4
	maxLength = 4 // of a text
)

// signs has what the fields of a cell say that are not for events.
type signs struct {
	clef        api.Clef
	key         int
	beats, unit int
	bar         api.Bar
	free        bool
}

// valid reports whether a cell is valid.
func valid(c api.Cell) bool {
	s := signs{c.Clef, c.Key, c.Beats, c.Unit, c.Bar, c.Free}
	if c.Kind == api.EventCell {
		return s == signs{} && validEvent(c)
	}
	return withoutEvent(c) && validSigns(c.Kind, s)
}

// validSigns reports whether a cell of a kind that is not for events may have these signs.
func validSigns(kind api.Kind, s signs) bool {
	switch kind {
	case api.ClefCell:
		return s == signs{clef: s.clef} && answers(api.WClef, int(s.clef))
	case api.KeyCell:
		return s == signs{key: s.key} && within(s.key, -maxKey, maxKey)
	case api.MeterCell:
		return s == signs{beats: s.beats, unit: s.unit} && answers(api.WBeats, s.beats) && answers(api.WUnit, s.unit)
	case api.BarCell:
		return s == signs{bar: s.bar, free: s.free} && answers(api.WBar, int(s.bar))
	}
	return false
}

// withoutEvent reports whether all fields of a cell that are for events are zero.
func withoutEvent(c api.Cell) bool {
	return len(c.Heads) == 0 && c.Rest == [zones]api.Value{} && c.RestDot == [zones]bool{} &&
		c.Stem == [sides]bool{} && c.Beam == [beams]int{} && c.Triple == [sides]bool{} && c.Text == ""
}

// validEvent reports whether the fields of a cell that are for events may be as they are.
func validEvent(c api.Cell) bool {
	return validHeads(c.Heads) && validRests(c) && validStems(c) && validBeams(c.Beam) && isText(c.Text)
}

func validHeads(l []api.Head) bool {
	for i, h := range l {
		if !within(h.Step, lowest, highest) || !answers(api.WHead, h.Kind) || !answers(api.WAcc, h.Acc) {
			return false
		}
		if i > 0 && h.Step-l[i-1].Step < leastDistance {
			return false
		}
	}
	return true
}

func validRests(c api.Cell) bool {
	for zone, rest := range c.Rest {
		if !answers(api.WRest, int(rest)) || rest != 0 && !open(zone, c.Heads) || rest == 0 && c.RestDot[zone] {
			return false
		}
	}
	return c.Rest[middle] == 0 || c.Rest[upper] == 0 && c.Rest[lower] == 0
}

func validStems(c api.Cell) bool {
	for side, stem := range c.Stem {
		if stem && len(stemHeads(c, side)) == 0 {
			return false
		}
	}
	return true
}

func validBeams(l [beams]int) bool {
	return !slices.ContainsFunc(l[:], func(beam int) bool { return !answers(api.WBeam, beam) })
}

// isText reports whether a text may be that of a cell.
func isText(t string) bool {
	letters := strings.TrimSuffix(t, "-")
	return t == "" || len(t) <= maxLength && letters != "" && strings.Trim(letters, "abcdefghijklmnopqrstuvwxyz") == ""
}

// open reports whether heads leave room for a rest in a zone.
func open(zone int, heads []api.Head) bool {
	return !slices.ContainsFunc(heads, func(h api.Head) bool {
		switch zone {
		case upper:
			return h.Step > middleStep
		case lower:
			return h.Step < middleStep
		}
		return true
	})
}

// stemHeads returns the heads that the stem of a side has, if it is there, of a cell whose heads are in order.
func stemHeads(c api.Cell, side int) []api.Head {
	if !c.Stem[up] || !c.Stem[down] {
		return c.Heads
	}
	first := slices.IndexFunc(c.Heads, func(h api.Head) bool { return h.Step > middleStep })
	if first < 0 {
		first = len(c.Heads)
	}
	if side == up {
		return c.Heads[first:]
	}
	return c.Heads[:first]
}

// within reports whether a number is from least to most.
func within[T ~int](n, least, most T) bool {
	return least <= n && n <= most
}
