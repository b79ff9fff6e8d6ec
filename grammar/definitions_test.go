package grammar_test

import (
	"slices"

	"custos/api"
	"custos/cell"
	"custos/grammar"
)

// readBy reads cells by the words of the chapter. The frame is valid, and there are as many cells as there may be.
func readBy(f grammar.Frame, l [][]api.Cell) ([]api.Measure, grammar.Spot, api.Errno) {
	for s, staff := range l {
		for c, one := range staff {
			if one.Kind != api.EventCell || cell.Check(one) != api.OK {
				return nil, grammar.Spot{Staff: s, Column: c}, api.ErrCell
			}
		}
	}
	for s, staff := range l {
		for c := range staff {
			if voice, e := cellBy(staff, c); e != api.OK {
				return nil, grammar.Spot{Staff: s, Column: c, Voice: voice}, e
			}
		}
	}
	for _, rule := range []func(f grammar.Frame, l [][]api.Cell) (grammar.Spot, api.Errno){columnBy, sumBy, beamBy, accBy, tieBy} {
		if at, e := rule(f, l); e != api.OK {
			return nil, at, e
		}
	}
	var out []api.Measure
	for s, staff := range l {
		m := api.Measure{}
		for v := range voicesBy(staff) {
			var events []api.Event
			for c := range staff {
				if hasBy(staff, c, v) {
					events = append(events, eventBy(f, s, staff, c, v))
				}
			}
			m.Voices = append(m.Voices, events)
		}
		out = append(out, m)
	}
	return out, grammar.Spot{}, api.OK
}

// voicesBy returns how many voices a staff has.
func voicesBy(staff []api.Cell) int {
	for _, c := range staff {
		if c.Stem[1] || c.Triple[1] || c.Rest[1] > 0 || c.Rest[2] > 0 || c.Beam[2] > 0 || c.Beam[3] > 0 {
			return 2
		}
	}
	return 1
}

// headsBy returns the heads of a voice in a cell.
func headsBy(staff []api.Cell, c, v int) []api.Head {
	heads := slices.Clone(staff[c].Heads)
	return slices.DeleteFunc(heads, func(h api.Head) bool {
		return voicesBy(staff) == 2 && (v == 0 && h.Step < 5 || v == 1 && h.Step > 3)
	})
}

// restBy returns the rest of a voice in a cell, and its dot.
func restBy(staff []api.Cell, c, v int) (api.Value, bool) {
	zone := []int{0, v + 1}[voicesBy(staff)-1]
	return staff[c].Rest[zone], staff[c].RestDot[zone]
}

// hasBy reports whether a voice has an event in a cell.
func hasBy(staff []api.Cell, c, v int) bool {
	rest, _ := restBy(staff, c, v)
	return rest > 0 || len(headsBy(staff, c, v)) > 0
}

// cellBy looks for the first of the first six rules that a cell breaks, and for its voice.
func cellBy(staff []api.Cell, c int) (int, api.Errno) {
	voices, one := voicesBy(staff), staff[c]
	if voices == 2 {
		for _, h := range one.Heads {
			if h.Step == 4 || h.Kind == 3 {
				return 0, api.ErrVoices
			}
		}
		if one.Rest[0] > 0 || one.Rest[1] == 1 || one.Rest[2] == 1 {
			return 0, api.ErrVoices
		}
	}
	for _, rule := range []struct {
		e     api.Errno
		wrong func(v int, heads []api.Head) bool
	}{
		{api.ErrHeads, func(_ int, heads []api.Head) bool {
			for _, a := range heads {
				for _, b := range heads {
					if a.Kind != b.Kind || a.Dot != b.Dot {
						return true
					}
				}
			}
			return false
		}},
		{api.ErrChord, func(_ int, heads []api.Head) bool { return len(heads) >= 9 }},
		{api.ErrStem, func(v int, heads []api.Head) bool {
			if one.Stem[v] {
				return len(heads) == 0 || heads[0].Kind == 3
			}
			return len(heads) > 0 && heads[0].Kind != 3
		}},
		{api.ErrHook, func(v int, heads []api.Head) bool {
			a, b := one.Beam[2*v], one.Beam[2*v+1]
			switch {
			case len(heads) > 0 && heads[0].Kind == 1:
				return b != 0 && b != a
			case hasBy(staff, c, v):
				return a != 0 || b != 0
			}
			return a != 0 && a != 4 || b != 0 && b != a
		}},
		{api.ErrMark, func(v int, heads []api.Head) bool {
			return one.Triple[v] && !hasBy(staff, c, v) || v == 0 && one.Text != "" && len(heads) == 0
		}},
	} {
		for v := range voices {
			if rule.wrong(v, headsBy(staff, c, v)) {
				return v, rule.e
			}
		}
	}
	return 0, api.OK
}

// valueBy returns the value of an event, and whether it has a dot.
func valueBy(staff []api.Cell, c, v int) (api.Value, bool) {
	heads := headsBy(staff, c, v)
	if len(heads) == 0 {
		return restBy(staff, c, v)
	}
	if heads[0].Kind > 1 {
		return api.Value(4 - heads[0].Kind), heads[0].Dot // 1 for 3, 2 for 2
	}
	value := api.Quarter
	for _, beam := range staff[c].Beam[2*v : 2*v+2] {
		if beam > 0 {
			value *= 2
		}
	}
	return value, heads[0].Dot
}

// timeBy returns the sum of the lengths of the events of a voice before a column.
func timeBy(staff []api.Cell, column, v int) int {
	sum := 0
	for c := range column {
		if hasBy(staff, c, v) {
			value, dot := valueBy(staff, c, v)
			sum += unitsOf(value, dot, staff[c].Triple[v])
		}
	}
	return sum
}

// eachBy goes through all staves, voices and columns, until something is wrong.
func eachBy(l [][]api.Cell, wrong func(s, v, c int) bool) (grammar.Spot, bool) {
	for s, staff := range l {
		for v := range voicesBy(staff) {
			for c := range staff {
				if wrong(s, v, c) {
					return grammar.Spot{Staff: s, Column: c, Voice: v}, true
				}
			}
		}
	}
	return grammar.Spot{}, false
}

// columnBy looks for the first spot at which the rule of columns is broken.
func columnBy(_ grammar.Frame, l [][]api.Cell) (grammar.Spot, api.Errno) {
	times := slices.Repeat([]int{-1}, len(l[0]))
	at, found := eachBy(l, func(s, v, c int) bool {
		if !hasBy(l[s], c, v) {
			return false
		}
		was := times[c]
		times[c] = timeBy(l[s], c, v)
		return was >= 0 && was != times[c]
	})
	if found {
		return at, api.ErrColumn
	}
	for s, staff := range l {
		for v := range voicesBy(staff) {
			if timeBy(staff, len(staff), v) == 0 {
				return grammar.Spot{Staff: s, Voice: v}, api.ErrColumn
			}
		}
	}
	for c, time := range times {
		if time < 0 || c > 0 && time <= times[c-1] || c == 0 && time != 0 {
			return grammar.Spot{Column: c}, api.ErrColumn
		}
	}
	return grammar.Spot{}, api.OK
}

// sumBy looks for the first voice with a wrong length.
func sumBy(f grammar.Frame, l [][]api.Cell) (grammar.Spot, api.Errno) {
	want := whole * f.Meter.Beats / f.Meter.Unit
	if f.Free {
		want = timeBy(l[0], len(l[0]), 0)
	}
	for s, staff := range l {
		for v := range voicesBy(staff) {
			if timeBy(staff, len(staff), v) != want {
				return grammar.Spot{Staff: s, Voice: v}, api.ErrSum
			}
		}
	}
	return grammar.Spot{}, api.OK
}

// beamBy looks for the first spot at which the rule of beams is broken.
func beamBy(_ grammar.Frame, l [][]api.Cell) (grammar.Spot, api.Errno) {
	within, group := false, api.Value(0)
	at, found := eachBy(l, func(s, v, c int) bool {
		if c == 0 {
			within = false
		}
		first, second := l[s][c].Beam[2*v], l[s][c].Beam[2*v+1]
		if !hasBy(l[s], c, v) {
			if within && (first != 4 || second != 4*int(group/16)) || !within && first+second > 0 {
				return true
			}
			return within && c == len(l[s])-1
		}
		value, _ := valueBy(l[s], c, v)
		if first < 3 && within || first >= 3 && (!within || value != group) {
			return true
		}
		if first == 2 {
			group = value
		}
		within = first == 2 || first == 4
		return within && c == len(l[s])-1
	})
	if found {
		return at, api.ErrBeam
	}
	return grammar.Spot{}, api.OK
}

// holdsBy returns the alteration that holds at a step of a staff before a column.
func holdsBy(f grammar.Frame, s int, staff []api.Cell, column, step int) int {
	for c := column - 1; c >= 0; c-- {
		for _, h := range staff[c].Heads {
			if h.Step == step && h.Acc > 0 {
				return []int{0, 1, -1, 0}[h.Acc]
			}
		}
	}
	letter := (bases[f.Clefs[s]] + step) % 7
	if f.Key > 0 && slices.Contains([]int{3, 0, 4, 1}[:f.Key], letter) {
		return 1
	}
	if f.Key < 0 && slices.Contains([]int{6, 2, 5, 1}[:-f.Key], letter) {
		return -1
	}
	return 0
}

// accBy looks for the first accidental that says nothing new. In one cell no step comes twice.
func accBy(f grammar.Frame, l [][]api.Cell) (grammar.Spot, api.Errno) {
	for s, staff := range l {
		for c := range staff {
			for v := range voicesBy(staff) {
				for _, h := range headsBy(staff, c, v) {
					if h.Acc > 0 && holdsBy(f, s, staff, c, h.Step) == []int{0, 1, -1, 0}[h.Acc] {
						return grammar.Spot{Staff: s, Column: c, Voice: v}, api.ErrAcc
					}
				}
			}
		}
	}
	return grammar.Spot{}, api.OK
}

// tieBy looks for the first tie to a note that is not there: the next event of a voice must have a head at the same step for which the same alteration holds.
func tieBy(f grammar.Frame, l [][]api.Cell) (grammar.Spot, api.Errno) {
	at, found := eachBy(l, func(s, v, c int) bool {
		next := c + 1
		for next < len(l[s]) && !hasBy(l[s], next, v) {
			next++
		}
		if next == len(l[s]) {
			return false
		}
		for _, h := range headsBy(l[s], c, v) {
			here, there := holdsBy(f, s, l[s], c+1, h.Step), holdsBy(f, s, l[s], next+1, h.Step)
			goesOn := slices.ContainsFunc(headsBy(l[s], next, v), func(n api.Head) bool { return n.Step == h.Step })
			if h.Tie && (!goesOn || here != there) {
				return true
			}
		}
		return false
	})
	if found {
		return at, api.ErrTie
	}
	return grammar.Spot{}, api.OK
}

// eventBy returns the event of a voice in a column.
func eventBy(f grammar.Frame, s int, staff []api.Cell, c, v int) api.Event {
	value, dot := valueBy(staff, c, v)
	e := api.Event{Value: value, Dot: dot, Triple: staff[c].Triple[v], Beam: []api.Beam{0, 0, 1, 3, 2}[staff[c].Beam[2*v]]}
	if v == 0 {
		e.Text = staff[c].Text
	}
	for _, h := range headsBy(staff, c, v) {
		e.Notes = append(e.Notes, api.Note{Pitch: api.Pitch{Step: bases[f.Clefs[s]] + h.Step, Alter: holdsBy(f, s, staff, c+1, h.Step)}, Tie: h.Tie})
	}
	return e
}
