package page_test

import (
	"maps"
	"slices"

	"custos/api"
	"custos/cell"
	"custos/page"
	"custos/score"
)

// stepOf returns the staff step of a note of a part.
func stepOf(p api.Part, n api.Note) int {
	return n.Pitch.Step - bases[p.Clef]
}

// anyStep reports whether a note of an event of a part has a staff step that is not in some limits.
func anyStep(p api.Part, e api.Event, least, most int) bool {
	return slices.ContainsFunc(e.Notes, func(n api.Note) bool { return stepOf(p, n) < least || stepOf(p, n) > most })
}

// firstBy returns the first event of which something is so.
func firstBy(s api.Score, so func(p api.Part, m api.Measure, voice int, e api.Event) bool) (score.Spot, bool) {
	for i, p := range s.Parts {
		for j, m := range p.Measures {
			for v, l := range m.Voices {
				for k, e := range l {
					if so(p, m, v, e) {
						return score.Spot{Part: i, Measure: j, Voice: v, Event: k}, true
					}
				}
			}
		}
	}
	return score.Spot{}, false
}

// fitsBy says whether a score that is right fits.
func fitsBy(s api.Score) (score.Spot, api.Errno) {
	if at, so := firstBy(s, func(p api.Part, _ api.Measure, _ int, e api.Event) bool { return anyStep(p, e, -4, 12) }); so {
		return at, api.ErrRange
	}
	if at, so := firstBy(s, func(_ api.Part, _ api.Measure, _ int, e api.Event) bool {
		for i, a := range e.Notes {
			for _, b := range e.Notes[:i] {
				if d := a.Pitch.Step - b.Pitch.Step; d == 1 || d == -1 {
					return true
				}
			}
		}
		return false
	}); so {
		return at, api.ErrClose
	}
	if at, so := firstBy(s, func(p api.Part, m api.Measure, voice int, e api.Event) bool {
		switch {
		case len(m.Voices) != 2:
			return false
		case voice == 0:
			return e.Value == api.Whole || anyStep(p, e, 5, 100)
		}
		return e.Value == api.Whole || anyStep(p, e, -100, 3)
	}); so {
		return at, api.ErrVoices
	}
	for m := range s.Bars {
		if len(columnsBy(s, m)) > 20 {
			return score.Spot{Measure: m}, api.ErrWide
		}
	}
	if len(layoutBy(s))*len(s.Parts) > 5 {
		return score.Spot{}, api.ErrLong
	}
	return score.Spot{}, api.OK
}

// columnsBy returns the columns of a measure in units.
func columnsBy(s api.Score, measure int) []int {
	set := map[int]bool{}
	for _, p := range s.Parts {
		for _, l := range p.Measures[measure].Voices {
			for _, n := range onsetsOf(l) {
				set[n] = true
			}
		}
	}
	return slices.Sorted(maps.Keys(set))
}

// layoutBy returns the systems of a score, of which each measure has room in a system of its own.
func layoutBy(s api.Score) []page.System {
	var l []page.System
	free := 0
	for m := range s.Bars {
		need := len(columnsBy(s, m)) + 1
		if need > free {
			l = append(l, page.System{First: m, Slots: []page.Slot{{Kind: 1}, {Kind: 2}, {Kind: 3}}})
			free = 24 - 3
		}
		free -= need
		last := &l[len(l)-1]
		last.Count++
		for c := range need - 1 {
			last.Slots = append(last.Slots, page.Slot{Kind: 4, Measure: m, Column: c})
		}
		last.Slots = append(last.Slots, page.Slot{Kind: 5, Measure: m})
	}
	return l
}

// cellsBy returns the cells of a score that fits.
func cellsBy(s api.Score) [][][]api.Cell {
	var out [][][]api.Cell
	for _, system := range layoutBy(s) {
		var staves [][]api.Cell
		for _, p := range s.Parts {
			staff := []api.Cell{{Kind: 1, Clef: p.Clef}, {Kind: 2, Key: s.Key}, {Kind: 3, Beats: s.Meter.Beats, Unit: s.Meter.Unit}}
			for m := system.First; m < system.First+system.Count; m++ {
				for _, now := range columnsBy(s, m) {
					staff = append(staff, eventBy(s.Key, p, m, now))
				}
				staff = append(staff, api.Cell{Kind: 5, Bar: s.Bars[m], Free: s.Free[m]})
			}
			staves = append(staves, staff)
		}
		out = append(out, staves)
	}
	return out
}

// eventBy returns the cell of a part in the column of a measure at a time in units.
func eventBy(key int, p api.Part, measure, now int) api.Cell {
	c := api.Cell{Kind: 4}
	voices := p.Measures[measure].Voices
	for v, l := range voices {
		for i, onset := range onsetsOf(l) {
			if onset == now {
				writeBy(&c, key, p, measure, v, i)
			} else if onset < now && onset+units(l[i]) > now && (l[i].Beam == api.BeamBegin || l[i].Beam == api.BeamIn) {
				c.Beam[2*v] = 4
				if l[i].Value == api.Sixteenth {
					c.Beam[2*v+1] = 4
				}
			}
		}
	}
	slices.SortFunc(c.Heads, func(a, b api.Head) int { return a.Step - b.Step })
	return c
}

// writeBy writes an event of a voice into a cell.
func writeBy(c *api.Cell, key int, p api.Part, measure, v, i int) {
	voices := p.Measures[measure].Voices
	e := voices[v][i]
	c.Triple[v] = e.Triple
	if v == 0 {
		c.Text = e.Text
	}
	if len(e.Notes) == 0 {
		zone := []int{0, v + 1}[len(voices)-1]
		c.Rest[zone], c.RestDot[zone] = e.Value, e.Dot
		return
	}
	c.Stem[v] = e.Value > 1
	for _, n := range e.Notes {
		kind := map[api.Value]int{1: 3, 2: 2, 4: 1, 8: 1, 16: 1}[e.Value]
		c.Heads = append(c.Heads, api.Head{Step: stepOf(p, n), Kind: kind, Acc: accBy(key, voices, v, i, n.Pitch), Dot: e.Dot, Tie: n.Tie})
	}
	if e.Value >= 8 {
		c.Beam[2*v] = map[api.Beam]int{0: 1, 1: 2, 2: 4, 3: 3}[e.Beam]
	}
	if e.Value == 16 {
		c.Beam[2*v+1] = c.Beam[2*v]
	}
}

// accBy returns the accidental of a pitch of an event: it has one unless the last note before it with its Step, in the same measure, has its alteration, or unless there is none, and the key has it.
func accBy(key int, voices [][]api.Event, v, i int, pitch api.Pitch) int {
	now, last, holds := onsetsOf(voices[v])[i], -1, keyBy(key, pitch.Step)
	for _, l := range voices {
		for k, onset := range onsetsOf(l) {
			for _, n := range l[k].Notes {
				// Voices that fit have no Step in common.
				if n.Pitch.Step == pitch.Step && onset < now && onset > last {
					last, holds = onset, n.Pitch.Alter
				}
			}
		}
	}
	if holds == pitch.Alter {
		return 0
	}
	return map[int]int{1: 1, -1: 2, 0: 3}[pitch.Alter]
}

// keyBy returns the alteration of a Step in a key.
func keyBy(key, step int) int {
	for k, letter := range []int{3, 0, 4, 1} {
		if k < key && step%7 == letter {
			return 1
		}
	}
	for k, letter := range []int{6, 2, 5, 1} {
		if k < -key && step%7 == letter {
			return -1
		}
	}
	return 0
}

// pageBy returns the page of systems of valid cells.
func pageBy(l [][][]api.Cell) api.Ink {
	slots := 0
	var strips [][]api.Ink
	for _, system := range l {
		for _, staff := range system {
			slots = max(slots, len(staff))
			var strip []api.Ink
			for _, c := range staff {
				k, _ := cell.Draw(c)
				strip = append(strip, k)
			}
			strips = append(strips, strip)
		}
	}
	k := api.Ink{W: 4 + 24*slots, H: 108 * len(strips)}
	for y := range k.H {
		strip, row := y/108, y%108
		from, to := firstAndLast(strip, len(l[0]))
		for x := range k.W {
			slot := (x+20)/24 - 1
			ink := slices.Contains(staffLines, row) || x == 1 && y >= 108*from+36 && y <= 108*to+60
			ink = ink || slot >= 0 && slot < len(strips[strip]) && has(strips[strip][slot], x-4-24*slot, row)
			k.Pix = append(k.Pix, map[bool]byte{true: 1}[ink])
		}
	}
	return k
}

// firstAndLast returns the first and the last strip of the system of a strip.
func firstAndLast(strip, staves int) (int, int) {
	first := strip - strip%staves
	return first, first + staves - 1
}

// scoreBy returns the score of which some cells are.
func scoreBy(l [][][]api.Cell) api.Score {
	s := api.Score{Key: l[0][0][1].Key, Meter: api.Meter{Beats: l[0][0][2].Beats, Unit: l[0][0][2].Unit}}
	s.Parts = make([]api.Part, len(l[0]))
	for _, system := range l {
		for p, staff := range system {
			s.Parts[p].Clef = staff[0].Clef
			var columns []api.Cell
			for _, c := range staff[3:] {
				if c.Kind == api.EventCell {
					columns = append(columns, c)
					continue
				}
				s.Parts[p].Measures = append(s.Parts[p].Measures, measureBy(s.Key, bases[staff[0].Clef], columns))
				columns = nil
				if p == 0 {
					s.Bars, s.Free = append(s.Bars, c.Bar), append(s.Free, c.Free)
				}
			}
		}
	}
	return s
}

// measureBy returns the measure of which some columns are.
func measureBy(key, base int, l []api.Cell) api.Measure {
	m := api.Measure{Voices: make([][]api.Event, 1)}
	if slices.ContainsFunc(l, func(c api.Cell) bool { return c.Stem[1] || c.Rest[1]+c.Rest[2] > 0 }) {
		m.Voices = make([][]api.Event, 2)
	}
	holds := map[int]int{}
	for _, c := range l {
		for v := range m.Voices {
			zone := []int{0, v + 1}[len(m.Voices)-1]
			e := api.Event{Value: c.Rest[zone], Dot: c.RestDot[zone]}
			for _, h := range c.Heads {
				if len(m.Voices) == 2 && (h.Step > 4) != (v == 0) {
					continue
				}
				if _, ok := holds[h.Step]; !ok {
					holds[h.Step] = keyBy(key, base+h.Step)
				}
				if h.Acc > 0 {
					holds[h.Step] = []int{1, -1, 0}[h.Acc-1]
				}
				e.Notes = append(e.Notes, api.Note{Pitch: api.Pitch{Step: base + h.Step, Alter: holds[h.Step]}, Tie: h.Tie})
				e.Value, e.Dot = valueBy(h.Kind, c.Beam[2*v:]), h.Dot
			}
			if e.Value == 0 {
				continue
			}
			e.Triple, e.Beam = c.Triple[v], []api.Beam{0, 0, 1, 3, 2}[c.Beam[2*v]]
			if v == 0 {
				e.Text = c.Text
			}
			m.Voices[v] = append(m.Voices[v], e)
		}
	}
	return m
}

// valueBy returns the value of heads of a kind with beams.
func valueBy(kind int, beams []int) api.Value {
	switch {
	case kind == 3:
		return 1
	case kind == 2:
		return 2
	case beams[0] == 0:
		return 4
	case beams[1] == 0:
		return 8
	}
	return 16
}
