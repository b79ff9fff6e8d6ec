package grammar

import (
	"iter"
	"slices"

	"custos/api"
	"custos/score"
	"custos/tone"
)

// check breaks off at the first rule that is broken. Each rule may rely on those before it.
func (r *reader) check() {
	ofCells := [...]func(*reader, *part){
		(*reader).checkVoices,
		(*reader).checkHeads,
		(*reader).checkChord,
		(*reader).checkStem,
		(*reader).checkHooks,
		(*reader).checkMarks,
	}
	ofMeasures := [...]func(*reader){
		(*reader).checkColumns,
		(*reader).checkSums,
		(*reader).checkBeams,
		(*reader).checkAccidentals,
		(*reader).checkTies,
	}
	for l := range r.byCell() {
		for _, rule := range ofCells {
			for _, p := range l {
				rule(r, p)
			}
		}
	}
	for _, rule := range ofMeasures {
		rule(r)
	}
}

// byCell yields what the voices have in each cell, staff by staff, column by column.
func (r *reader) byCell() iter.Seq[[]*part] {
	return func(yield func([]*part) bool) {
		for s, staff := range r.staves {
			for column := range r.cells[s] {
				var l []*part
				for _, v := range staff {
					l = append(l, v[column])
				}
				if !yield(l) {
					return
				}
			}
		}
	}
}

// voices yields the voices, staff by staff.
func (r *reader) voices() iter.Seq[voice] {
	return func(yield func(voice) bool) {
		for _, staff := range r.staves {
			for _, v := range staff {
				if !yield(v) {
					return
				}
			}
		}
	}
}

// checkVoices asks the same of both voices, so that it is the first one which breaks the rule.
func (r *reader) checkVoices(p *part) {
	if len(r.staves[p.at.Staff]) == 1 {
		return
	}
	c := r.cells[p.at.Staff][p.at.Column]
	wrong := c.Rest[0] != 0 || slices.Contains(c.Rest[:], api.Whole) || slices.ContainsFunc(c.Heads, func(h api.Head) bool {
		return h.Kind == wholeHead || highestLast < h.Step && h.Step < lowestFirst
	})
	breakIf(wrong, api.ErrVoices, p.at)
}

func (r *reader) checkHeads(p *part) {
	differs := func(h api.Head) bool { return h.Kind != p.heads[0].Kind || h.Dot != p.heads[0].Dot }
	breakIf(slices.ContainsFunc(p.heads, differs), api.ErrHeads, p.at)
}

func (r *reader) checkChord(p *part) {
	breakIf(len(p.heads) > score.MaxNotes, api.ErrChord, p.at)
}

func (r *reader) checkStem(p *part) {
	needed := p.kind() == blackHead || p.kind() == whiteHead
	breakIf(p.stem != needed, api.ErrStem, p.at)
}

func (r *reader) checkHooks(p *part) {
	first, second := p.beams[0], p.beams[1]
	right := second == noBeam || second == first
	switch {
	case !p.isEvent():
		right = right && (first == noBeam || first == bothSides)
	case p.kind() != blackHead:
		right = first == noBeam && second == noBeam
	}
	breakIf(!right, api.ErrHook, p.at)
}

func (r *reader) checkMarks(p *part) {
	breakIf(p.triple && !p.isEvent() || p.text != "" && len(p.heads) == 0, api.ErrMark, p.at)
}

func (r *reader) checkColumns() {
	times := map[int]api.Ratio{}
	for v := range r.voices() {
		now := api.Ratio{N: 0, D: 1}
		for p := range v.events() {
			time, found := times[p.at.Column]
			breakIf(found && time != now, api.ErrColumn, p.at)
			times[p.at.Column] = now
			now, _ = tone.Add(now, p.length())
		}
	}
	for v := range r.voices() {
		breakIf(!slices.ContainsFunc(v, (*part).isEvent), api.ErrColumn, v[0].at)
	}
	// An event in the first column is the first one of its voice: its time is 0.
	last := api.Ratio{N: -1, D: 1}
	for column := range r.cells[0] {
		time, found := times[column]
		breakIf(!found || !isLess(last, time), api.ErrColumn, Spot{Column: column})
		last = time
	}
}

func (r *reader) checkSums() {
	want, _ := tone.Bar(r.Meter)
	if r.Free {
		want = r.staves[0][0].length()
	}
	for v := range r.voices() {
		breakIf(v.length() != want, api.ErrSum, v[0].at)
	}
}

func (r *reader) checkBeams() {
	for v := range r.voices() {
		var group api.Value // the value of the group in which the voice is, or 0
		for _, p := range v {
			breakIf(!p.fits(group), api.ErrBeam, p.at)
			switch p.beam() {
			case api.BeamBegin:
				group = p.value()
			case api.BeamEnd:
				group = 0
			}
		}
		breakIf(group != 0, api.ErrBeam, v[len(v)-1].at)
	}
}

// fits reports whether the beams may stand in a group of a value, or in none if it is 0.
func (p *part) fits(group api.Value) bool {
	if !p.isEvent() {
		return p.beams == through(group)
	}
	if p.beam() == api.BeamIn || p.beam() == api.BeamEnd {
		return group == p.value()
	}
	return group == 0
}

// through returns the beams in a column in which a voice has no event, within a group of a value, or in none if it is 0.
func through(group api.Value) [2]int {
	switch group {
	case api.Eighth:
		return [2]int{bothSides, noBeam}
	case api.Sixteenth:
		return [2]int{bothSides, bothSides}
	}
	return [2]int{noBeam, noBeam}
}

func (r *reader) checkAccidentals() {
	for s, staff := range r.staves {
		base, _ := tone.Base(r.Clefs[s])
		state, _ := tone.New(r.Key)
		for column := range r.cells[s] {
			for _, v := range staff {
				v[column].hear(state, base)
			}
		}
	}
}

func (r *reader) checkTies() {
	for v := range r.voices() {
		l := slices.Collect(v.events())
		for i := 1; i < len(l); i++ {
			breakIf(!l[i-1].leadsTo(l[i]), api.ErrTie, l[i-1].at)
		}
	}
}

// isLess reports whether a time comes before another one.
func isLess(a, b api.Ratio) bool {
	c, _ := tone.Cmp(a, b)
	return c < 0
}
