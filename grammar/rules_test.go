package grammar_test

import (
	"testing"

	"custos/api"
	"custos/grammar"
)

// trial is a list of cells, and what reading them as a measure that is free must say.
type trial struct {
	name  string
	l     [][]api.Cell
	at    grammar.Spot
	errno api.Errno
}

// expect makes trials.
func expect(t *testing.T, trials []trial) {
	t.Helper()
	for _, x := range trials {
		m, at, e := grammar.Read(free(len(x.l)), x.l)
		if e != x.errno || at != x.at || zero(m) != (e != api.OK) {
			t.Errorf("%s: %+v, error %d; want %+v, error %d", x.name, at, e, x.at, x.errno)
		}
	}
}

// two is a cell of two voices with a quarter each.
var two = both(quarter(6), lower(0))

// wholeNote is a cell of one voice.
var wholeNote = note(3, 0, 0, 0, 0)

func low(c *api.Cell)   { c.Triple[1] = true }
func up(c *api.Cell)    { c.Triple[0] = true }
func named(c *api.Cell) { c.Text = "a" }

// dot returns what gives dots to some heads.
func dot(heads ...int) func(c *api.Cell) {
	return func(c *api.Cell) {
		for _, h := range heads {
			c.Heads[h].Dot = true
		}
	}
}

// kind returns what makes a head one of another kind.
func kind(head, kind int) func(c *api.Cell) {
	return func(c *api.Cell) { c.Heads[head].Kind = kind }
}

// stems returns what makes stems others.
func stems(up, down bool) func(c *api.Cell) {
	return func(c *api.Cell) { c.Stem = [2]bool{up, down} }
}

func TestErrVoices(t *testing.T) {
	expect(t, []trial{
		{"a rest in the middle", row(two, pause(0, 4)), at(0, 1, 0), api.ErrVoices},
		{"a head in the middle", row(two, quarter(4)), at(0, 1, 0), api.ErrVoices},
		{"a head in the middle of others", row(two, both(quarter(4, 6), lower(2))), at(0, 1, 0), api.ErrVoices},
		{"a whole note above", row(both(note(3, 0, 0, 0, 6), lower(0))), at(0, 0, 0), api.ErrVoices},
		{"a whole note below", row(two, both(quarter(6), wholeNote)), at(0, 1, 0), api.ErrVoices},
		{"a whole rest above", row(both(pause(1, 1), lower(0))), at(0, 0, 0), api.ErrVoices},
		{"a whole rest below", row(both(quarter(6), pause(2, 1))), at(0, 0, 0), api.ErrVoices},
		{"half rests", row(both(pause(1, 2), pause(2, 2))), at(0, 0, 0), api.OK},
		{"half notes at the limits", row(both(note(2, 0, 0, 0, 5), note(2, 1, 0, 0, 3))), at(0, 0, 0), api.OK},
		{"one voice", row(pause(0, 1), wholeNote, quarter(4)), at(0, 0, 0), api.OK},
		{"a stem below", row(quarter(4), lower(0)), at(0, 0, 0), api.ErrVoices},
		{"a triple below", row(quarter(4), with(nothing, low)), at(0, 0, 0), api.ErrVoices},
		{"a rest above", row(quarter(4), pause(1, 4)), at(0, 0, 0), api.ErrVoices},
		{"a rest below", row(quarter(4), pause(2, 16)), at(0, 0, 0), api.ErrVoices},
		{"a beam below", row(quarter(4), beams(0, 0, 4)), at(0, 0, 0), api.ErrVoices},
		{"a second beam below", row(quarter(4), beams(0, 0, 0, 1)), at(0, 0, 0), api.ErrVoices},
		{"nothing below", row(quarter(4), with(pause(0, 4), up)), at(0, 0, 0), api.OK},
		{"two voices elsewhere", [][]api.Cell{{quarter(4)}, {two}, {quarter(4)}}, at(0, 0, 0), api.OK},
		{"two voices on the last staff", [][]api.Cell{{quarter(4), quarter(4)}, {two, quarter(4)}}, at(1, 1, 0), api.ErrVoices},
	})
}

func TestErrHeads(t *testing.T) {
	chords := both(quarter(5, 7), lower(1, 3))
	expect(t, []trial{
		{"black and white", row(quarter(0), with(quarter(0, 2), kind(1, 2))), at(0, 1, 0), api.ErrHeads},
		{"white and whole", row(with(note(2, 0, 0, 0, 0, 2, 4), kind(2, 3))), at(0, 0, 0), api.ErrHeads},
		{"a dot at the last", row(with(quarter(0, 2, 4), dot(2))), at(0, 0, 0), api.ErrHeads},
		{"a dot at the first", row(with(quarter(0, 2, 4), dot(0))), at(0, 0, 0), api.ErrHeads},
		{"no dot in the middle", row(with(quarter(0, 2, 4), dot(0, 2))), at(0, 0, 0), api.ErrHeads},
		{"in the first voice", row(with(chords, dot(3))), at(0, 0, 0), api.ErrHeads},
		{"in the second voice", row(with(chords, kind(0, 2))), at(0, 0, 1), api.ErrHeads},
		{"in both", row(with(with(chords, kind(0, 2)), dot(2))), at(0, 0, 0), api.ErrHeads},
		{"voices with other dots", row(with(chords, dot(2, 3)), note(1, 1, 1, 0, 1)), at(0, 0, 0), api.OK},
		{"voices of other kinds", row(both(quarter(5), note(2, 1, 0, 0, 1)), quarter(5)), at(0, 0, 0), api.OK},
		{"columns of other kinds", row(quarter(5), note(2, 0, 0, 0, 5), with(quarter(5), dot(0))), at(0, 0, 0), api.OK},
		{"other ties and accidentals", row(tied(acc(quarter(0, 2), 0, 1), 1)), at(0, 0, 0), api.OK},
	})
}

func TestErrChord(t *testing.T) {
	expect(t, []trial{
		{"nine heads", row(quarter(0), quarter(-4, -2, 0, 2, 4, 6, 8, 10, 12)), at(0, 1, 0), api.ErrChord},
		{"nine whole notes", row(note(3, 0, 0, 0, -4, -2, 0, 2, 4, 6, 8, 10, 12)), at(0, 0, 0), api.ErrChord},
		{"eight heads", row(quarter(-2, 0, 2, 4, 6, 8, 10, 12)), at(0, 0, 0), api.OK},
		{"eight heads of two voices", row(both(quarter(6, 8, 10, 12), lower(-4, -2, 0, 2))), at(0, 0, 0), api.OK},
	})
}

func TestErrStem(t *testing.T) {
	expect(t, []trial{
		{"a black head without one", row(quarter(0), with(quarter(0), stems(false, false))), at(0, 1, 0), api.ErrStem},
		{"a white head without one", row(with(note(2, 0, 0, 0, 0), stems(false, false))), at(0, 0, 0), api.ErrStem},
		{"a whole note with one", row(with(wholeNote, stems(true, false))), at(0, 0, 0), api.ErrStem},
		{"the first voice without one", row(with(two, stems(false, true))), at(0, 0, 0), api.ErrStem},
		{"the second voice without one", row(two, with(two, stems(true, false))), at(0, 1, 1), api.ErrStem},
		{"both without one", row(two, with(two, stems(false, false))), at(0, 1, 0), api.ErrStem},
		{"that of the other voice", row(two, with(lower(0), stems(true, false))), at(0, 1, 0), api.ErrStem},
		{"that of the second voice", row(two, with(quarter(6), stems(false, true))), at(0, 1, 0), api.ErrStem},
		{"that of the second voice beside a rest", row(two, both(with(quarter(6), stems(false, true)), pause(2, 4))), at(0, 1, 0), api.ErrStem},
	})
}

func TestErrHook(t *testing.T) {
	for _, second := range []bool{false, true} {
		side, c, rest := 0, quarter(6), pause(1, 4)
		join := func(c api.Cell) api.Cell { return both(c, lower(0)) }
		if second {
			side, c, rest = 1, lower(0), pause(2, 4)
			join = func(c api.Cell) api.Cell { return both(quarter(6), c) }
		}
		beamed := func(c api.Cell, first, second int) api.Cell {
			return with(c, func(c *api.Cell) { c.Beam[2*side], c.Beam[2*side+1] = first, second })
		}
		for first := range 5 {
			for last := range 5 {
				same := last == 0 || last == first
				for _, x := range []struct {
					name  string
					c     api.Cell
					right bool
				}{
					{"black heads", c, same},
					{"white heads", with(c, kind(0, 2)), first+last == 0},
					{"a rest", rest, first+last == 0},
					{"no event", nothing, same && (first == 0 || first == 4)},
				} {
					_, spot, e := grammar.Read(free(1), row(two, join(beamed(x.c, first, last))))
					if (e == api.ErrHook) == x.right || e == api.ErrHook && spot != at(0, 1, side) || e == api.ErrCell {
						t.Errorf("%s on side %d with %d and %d: %+v, error %d", x.name, side, first, last, spot, e)
					}
				}
			}
		}
	}
	expect(t, []trial{
		{"a whole note", row(with(wholeNote, func(c *api.Cell) { c.Beam[0] = 1 })), at(0, 0, 0), api.ErrHook},
		{"a second beam of a whole note", row(with(wholeNote, func(c *api.Cell) { c.Beam[1] = 4 })), at(0, 0, 0), api.ErrHook},
		{"a rest of the only voice", row(with(pause(0, 8), func(c *api.Cell) { c.Beam[0] = 4 })), at(0, 0, 0), api.ErrHook},
		{"both voices", row(two, beams(1, 0, 1, 0)), at(0, 1, 0), api.ErrHook},
	})
}

func TestErrMark(t *testing.T) {
	expect(t, []trial{
		{"a triple without an event", row(quarter(0), with(nothing, up)), at(0, 1, 0), api.ErrMark},
		{"a triple of the first voice", row(two, with(lower(0), up)), at(0, 1, 0), api.ErrMark},
		{"a triple of the second voice", row(two, with(quarter(6), low)), at(0, 1, 1), api.ErrMark},
		{"triples of both", row(two, with(with(nothing, up), low)), at(0, 1, 0), api.ErrMark},
		{"triples of rests", row(with(with(both(pause(1, 4), pause(2, 4)), up), low)), at(0, 0, 0), api.OK},
		{"a text without an event", row(quarter(0), with(nothing, named)), at(0, 1, 0), api.ErrMark},
		{"a text of a rest", row(with(pause(0, 4), named)), at(0, 0, 0), api.ErrMark},
		{"a text of the second voice", row(two, with(lower(0), named)), at(0, 1, 0), api.ErrMark},
		{"a text of a rest of two voices", row(with(both(pause(1, 4), lower(0)), named)), at(0, 0, 0), api.ErrMark},
		{"a text above a rest", row(with(both(quarter(6), pause(2, 4)), named)), at(0, 0, 0), api.OK},
		{"a text and a triple", row(with(with(quarter(0), named), up)), at(0, 0, 0), api.OK},
	})
}

// TestOrderInCells has cells that break several of the first six rules.
func TestOrderInCells(t *testing.T) {
	voices := with(two, kind(1, 3))                        // and stems
	heads := with(both(quarter(6), lower(0, 2)), dot(0))   // of the second voice
	hook := with(two, func(c *api.Cell) { c.Beam[1] = 1 }) // of the first voice
	mark := both(with(nothing, named), lower(0))           // of the first voice
	stem := with(two, stems(true, false))                  // of the second voice
	stemAndHook := with(hook, stems(true, false))          // of both
	nine := quarter(-4, -2, 0, 2, 4, 6, 8, 10, 12)         // of one voice
	chord := with(nine, stems(false, false))               // and stems
	headsAndChord := with(nine, kind(8, 2))                // of one voice
	voicesAndHeads := with(with(heads, kind(2, 3)), named) // of both
	hookAndMark := with(beams(0, 0, 1, 0), up)             // the hook of the second voice
	expect(t, []trial{
		{"voices before heads", row(voicesAndHeads), at(0, 0, 0), api.ErrVoices},
		{"voices before stems", row(voices), at(0, 0, 0), api.ErrVoices},
		{"heads before chords", row(headsAndChord), at(0, 0, 0), api.ErrHeads},
		{"heads before stems", row(with(heads, stems(false, true))), at(0, 0, 1), api.ErrHeads},
		{"chords before stems", row(chord), at(0, 0, 0), api.ErrChord},
		{"a stem of the second voice before a hook of the first one", row(two, stemAndHook), at(0, 1, 1), api.ErrStem},
		{"a hook of the second voice before a mark of the first one", row(two, hookAndMark), at(0, 1, 1), api.ErrHook},
		{"a mark before voices of the next column", row(mark, voices), at(0, 0, 0), api.ErrMark},
		{"a stem before heads of the next column", row(stem, heads), at(0, 0, 1), api.ErrStem},
		{"a later column before the next staff", [][]api.Cell{{two, hook}, {voices, two}}, at(0, 1, 0), api.ErrHook},
		{"a cell before columns", [][]api.Cell{{quarter(0), nothing}, {quarter(0), with(nothing, up)}}, at(1, 1, 0), api.ErrMark},
	})
}

func TestErrColumn(t *testing.T) {
	eighthBelow := note(1, 1, 1, 0, 0)
	expect(t, []trial{
		{"another time of another staff", [][]api.Cell{{quarter(0), quarter(0)}, {eighth(0), quarter(0)}}, at(1, 1, 0), api.ErrColumn},
		{"another time of the second voice", row(two, both(quarter(6), lower(0)), both(eighth(6), nothing), both(quarter(6), lower(0))), at(0, 3, 1), api.ErrColumn},
		{"another time of a third staff", [][]api.Cell{{quarter(0), nothing, quarter(0)}, {eighth(0), eighth(0), nothing}, {quarter(0), quarter(0), nothing}}, at(2, 1, 0), api.ErrColumn},
		{"the first staff with it, not the first column", [][]api.Cell{{eighth(0), eighth(0), eighth(0)}, {eighth(0), nothing, eighth(0)}, {quarter(0), eighth(0), nothing}}, at(1, 2, 0), api.ErrColumn},
		{"the first voice with it, not the first column", [][]api.Cell{{eighth(0), eighth(0), eighth(0)}, {both(eighth(6), lower(0)), lower(0), eighth(6)}}, at(1, 2, 0), api.ErrColumn},
		{"another time before a voice without events", [][]api.Cell{{nothing, nothing}, {quarter(0), quarter(0)}, {eighth(0), quarter(0)}}, at(2, 1, 0), api.ErrColumn},
		{"an event too late in the first column's voice", [][]api.Cell{{nothing, quarter(0)}, {quarter(0), quarter(0)}}, at(1, 1, 0), api.ErrColumn},
		{"no events on the first staff", [][]api.Cell{{nothing}, {quarter(0)}}, at(0, 0, 0), api.ErrColumn},
		{"no events on the last staff", [][]api.Cell{{quarter(0), quarter(0)}, {nothing, nothing}}, at(1, 0, 0), api.ErrColumn},
		{"no events of the second voice", row(both(quarter(6), beams(0, 0, 4)), quarter(6)), at(0, 0, 1), api.ErrColumn},
		{"no events of the first voice", row(lower(0), lower(0)), at(0, 0, 0), api.ErrColumn},
		{"a voice without events before an empty column", [][]api.Cell{{quarter(0), nothing}, {nothing, nothing}}, at(1, 0, 0), api.ErrColumn},
		{"an empty column", [][]api.Cell{{quarter(0), nothing, quarter(0)}, {quarter(0), nothing, quarter(0)}}, at(0, 1, 0), api.ErrColumn},
		{"an empty first column", row(nothing, quarter(0)), at(0, 0, 0), api.ErrColumn},
		{"an empty last column", row(quarter(0), nothing), at(0, 1, 0), api.ErrColumn},
		{"the same time twice", [][]api.Cell{{eighth(0), eighth(0), nothing}, {eighth(0), nothing, eighth(0)}}, at(0, 2, 0), api.ErrColumn},
		{"the same time twice at first", row(both(quarter(6), nothing), lower(0)), at(0, 1, 0), api.ErrColumn},
		{"a time that is less", [][]api.Cell{{quarter(0), quarter(0), nothing}, {eighth(0), nothing, eighth(0)}}, at(0, 2, 0), api.ErrColumn},
		{"an empty column before a time that is less", [][]api.Cell{{quarter(0), nothing, quarter(0), nothing}, {eighth(0), nothing, nothing, eighth(0)}}, at(0, 1, 0), api.ErrColumn},
		{"a time that is less before an empty column", [][]api.Cell{{quarter(0), quarter(0), nothing, nothing}, {eighth(0), nothing, eighth(0), nothing}}, at(0, 2, 0), api.ErrColumn},
		{"columns before sums", [][]api.Cell{{quarter(0), nothing}, {eighth(0), nothing}}, at(0, 1, 0), api.ErrColumn},
		{"voices one after the other", row(two, eighthBelow, both(quarter(6), eighthBelow)), at(0, 2, 1), api.ErrColumn},
		{"times that go on", [][]api.Cell{{eighth(0), nothing, eighth(0)}, {note(1, 0, 1, 1, 0), note(1, 0, 1, 1, 0), eighth(0)}}, at(0, 0, 0), api.OK},
	})
}

func TestErrSum(t *testing.T) {
	expect(t, []trial{
		{"another staff is longer", [][]api.Cell{{eighth(0)}, {quarter(0)}}, at(1, 0, 0), api.ErrSum},
		{"another staff is shorter", [][]api.Cell{{quarter(0), quarter(0)}, {quarter(0), eighth(0)}}, at(1, 0, 0), api.ErrSum},
		{"the second voice", row(both(quarter(6), note(1, 1, 1, 0, 0))), at(0, 0, 1), api.ErrSum},
		{"not like the first of all voices", [][]api.Cell{{quarter(0)}, {quarter(0)}, {both(eighth(6), note(1, 1, 1, 0, 0))}}, at(2, 0, 0), api.ErrSum},
		{"sums before beams", [][]api.Cell{{note(1, 0, 2, 0, 0)}, {quarter(0)}}, at(1, 0, 0), api.ErrSum},
	})
	for _, x := range []struct {
		name  string
		f     grammar.Frame
		l     [][]api.Cell
		at    grammar.Spot
		errno api.Errno
	}{
		{"too short", frame(0, 3, 4, 1), row(quarter(0), quarter(0)), at(0, 0, 0), api.ErrSum},
		{"right", frame(0, 3, 4, 1), row(quarter(0), quarter(0), quarter(0)), at(0, 0, 0), api.OK},
		{"too long", frame(0, 3, 4, 1), row(quarter(0), quarter(0), quarter(0), quarter(0)), at(0, 0, 0), api.ErrSum},
		{"another unit", frame(0, 6, 8, 1), row(with(note(2, 0, 0, 0, 0), dot(0))), at(0, 0, 0), api.OK},
		{"triples", frame(0, 1, 4, 1), row(with(eighth(0), up), with(eighth(0), up), with(pause(0, 8), up)), at(0, 0, 0), api.OK},
		{"a dotted rest", frame(0, 3, 8, 1), row(with(pause(0, 4), func(c *api.Cell) { c.RestDot[0] = true })), at(0, 0, 0), api.OK},
		{"the second staff", frame(0, 1, 4, 2), [][]api.Cell{{quarter(0)}, {eighth(0)}}, at(1, 0, 0), api.ErrSum},
		{"all alike, but wrong", frame(0, 1, 4, 2), [][]api.Cell{{eighth(0)}, {eighth(0)}}, at(0, 0, 0), api.ErrSum},
		{"the second voice of the first staff", frame(0, 1, 4, 2), [][]api.Cell{{both(quarter(6), pause(2, 2))}, {eighth(0)}}, at(0, 0, 1), api.ErrSum},
	} {
		if _, at, e := grammar.Read(x.f, x.l); at != x.at || e != x.errno {
			t.Errorf("%s: %+v, error %d; want %+v, error %d", x.name, at, e, x.at, x.errno)
		}
	}
}

// b8 returns an eighth of the only or the first voice with a first beam.
func b8(first int) api.Cell { return note(1, 0, first, 0, 6) }

// b16 returns a sixteenth of the only or the first voice with both beams.
func b16(both int) api.Cell { return note(1, 0, both, both, 6) }

func TestErrBeam(t *testing.T) {
	expect(t, []trial{
		{"an end outside", row(b8(1), b8(3)), at(0, 1, 0), api.ErrBeam},
		{"a middle outside", row(b8(4)), at(0, 0, 0), api.ErrBeam},
		{"a middle behind an end", row(b8(2), b8(3), b8(4)), at(0, 2, 0), api.ErrBeam},
		{"two ends", row(b8(2), b8(3), b8(3)), at(0, 2, 0), api.ErrBeam},
		{"a begin within", row(b8(2), b8(2), b8(3)), at(0, 1, 0), api.ErrBeam},
		{"a hook within", row(b8(2), b8(1), b8(3)), at(0, 1, 0), api.ErrBeam},
		{"a quarter within", row(b8(2), quarter(6), b8(3)), at(0, 1, 0), api.ErrBeam},
		{"a half note within", row(b8(2), note(2, 0, 0, 0, 6), b8(3)), at(0, 1, 0), api.ErrBeam},
		{"a whole note within", row(b8(2), wholeNote, b8(3)), at(0, 1, 0), api.ErrBeam},
		{"a rest within", row(b8(2), pause(0, 8), b8(3)), at(0, 1, 0), api.ErrBeam},
		{"a middle of another value", row(b8(2), b16(4), b8(3)), at(0, 1, 0), api.ErrBeam},
		{"an end of another value", row(b16(2), b8(3)), at(0, 1, 0), api.ErrBeam},
		{"other dots", row(with(b8(2), dot(0)), b8(4), with(b8(3), up)), at(0, 0, 0), api.OK},
		{"two groups", row(b8(2), b8(3), b16(2), b16(3), b8(1)), at(0, 0, 0), api.OK},
		{"no end", row(b8(1), b8(2)), at(0, 1, 0), api.ErrBeam},
		{"no end of a long group", row(b16(2), b16(4), b16(4)), at(0, 2, 0), api.ErrBeam},
		{"no end of a whole measure", row(b8(2)), at(0, 0, 0), api.ErrBeam},
		{"no end, on the first of two staves", [][]api.Cell{{b8(2)}, {b8(4)}}, at(0, 0, 0), api.ErrBeam},
		{"the second of two staves", [][]api.Cell{{b8(2), b8(3)}, {b8(1), b8(3)}}, at(1, 1, 0), api.ErrBeam},
		{"a group does not go on to the next staff", [][]api.Cell{{b8(1), b8(2)}, {b8(3), b8(1)}}, at(0, 1, 0), api.ErrBeam},
		{"the first voice, not the first column", row(both(b8(1), note(1, 1, 4, 0, 0)), both(b8(3), note(1, 1, 1, 0, 0))), at(0, 1, 0), api.ErrBeam},
		{"the second voice", row(both(b8(2), note(1, 1, 2, 0, 0)), both(b8(3), note(1, 1, 2, 0, 0))), at(0, 1, 1), api.ErrBeam},
		{"voices do not share groups", row(both(b8(2), note(1, 1, 1, 0, 0)), both(b8(1), note(1, 1, 3, 0, 0))), at(0, 1, 0), api.ErrBeam},
		{"beams before accidentals", [][]api.Cell{{acc(b8(1), 0, 3)}, {b8(2)}}, at(1, 0, 0), api.ErrBeam},
	})
}

// TestBeamsBetween has columns in which a voice has no event.
func TestBeamsBetween(t *testing.T) {
	hook, third, thirds := b16(1), with(b16(1), up), with(b8(1), up)
	eighths := func(first, between, last api.Cell) [][]api.Cell {
		return [][]api.Cell{{first, between, last}, {hook, hook, b8(1)}}
	}
	sixteenths := func(first, between, last api.Cell) [][]api.Cell {
		return [][]api.Cell{{first, between, last}, {third, thirds, nothing}}
	}
	behind := func(between api.Cell) [][]api.Cell {
		return [][]api.Cell{{b8(2), b8(3), between}, {b8(1), hook, hook}}
	}
	expect(t, []trial{
		{"one beam of eighths", eighths(b8(2), beams(4), b8(3)), at(0, 0, 0), api.OK},
		{"no beam of eighths", eighths(b8(2), nothing, b8(3)), at(0, 1, 0), api.ErrBeam},
		{"two beams of eighths", eighths(b8(2), beams(4, 4), b8(3)), at(0, 1, 0), api.ErrBeam},
		{"two beams of sixteenths", sixteenths(b16(2), beams(4, 4), b16(3)), at(0, 0, 0), api.OK},
		{"one beam of sixteenths", sixteenths(b16(2), beams(4), b16(3)), at(0, 1, 0), api.ErrBeam},
		{"no beam of sixteenths", sixteenths(b16(2), nothing, b16(3)), at(0, 1, 0), api.ErrBeam},
		{"none outside", eighths(b8(1), nothing, b8(1)), at(0, 0, 0), api.OK},
		{"one outside", eighths(b8(1), beams(4), b8(1)), at(0, 1, 0), api.ErrBeam},
		{"two outside", sixteenths(b16(1), beams(4, 4), b16(1)), at(0, 1, 0), api.ErrBeam},
		{"none behind", behind(nothing), at(0, 0, 0), api.OK},
		{"one behind", behind(beams(4)), at(0, 2, 0), api.ErrBeam},
		{"no end before the last column", [][]api.Cell{{b8(1), b8(2), beams(4)}, {b8(1), hook, hook}}, at(0, 2, 0), api.ErrBeam},
		{"no end and no beam before the last column", [][]api.Cell{{b8(1), b8(2), nothing}, {b8(1), hook, hook}}, at(0, 2, 0), api.ErrBeam},
		{"the second voice", row(both(hook, note(1, 1, 2, 0, 0)), both(hook, beams(0, 0, 4)), both(b8(1), note(1, 1, 3, 0, 0))), at(0, 0, 0), api.OK},
		{"too much in the second voice", row(both(hook, note(1, 1, 2, 0, 0)), both(hook, beams(0, 0, 4, 4)), both(b8(1), note(1, 1, 3, 0, 0))), at(0, 1, 1), api.ErrBeam},
		{"nothing in the second voice", row(both(hook, note(1, 1, 2, 0, 0)), hook, both(b8(1), note(1, 1, 3, 0, 0))), at(0, 1, 1), api.ErrBeam},
	})
}

func TestErrAcc(t *testing.T) {
	signed := func(step, sign int) api.Cell { return acc(quarter(step), 0, sign) }
	expect(t, []trial{
		{"a natural of the key", row(signed(0, 3)), at(0, 0, 0), api.ErrAcc},
		{"a sharp twice", row(signed(0, 1), quarter(0), signed(0, 1)), at(0, 2, 0), api.ErrAcc},
		{"a flat twice", row(signed(0, 2), signed(0, 2)), at(0, 1, 0), api.ErrAcc},
		{"a natural twice", row(signed(0, 2), signed(0, 3), signed(0, 3)), at(0, 2, 0), api.ErrAcc},
		{"there and back", row(signed(0, 2), signed(0, 3), signed(0, 1), signed(0, 2)), at(0, 0, 0), api.OK},
		{"another octave", row(signed(0, 1), signed(7, 1)), at(0, 0, 0), api.OK},
		{"another staff", [][]api.Cell{{signed(0, 1)}, {signed(0, 1)}}, at(0, 0, 0), api.OK},
		{"a natural of another staff", [][]api.Cell{{signed(0, 1)}, {signed(0, 3)}}, at(1, 0, 0), api.ErrAcc},
		{"the first staff, not the first column", [][]api.Cell{{quarter(0), signed(0, 3)}, {signed(0, 3), quarter(0)}}, at(0, 1, 0), api.ErrAcc},
		{"the first column, not the first voice", row(both(quarter(6), acc(lower(0), 0, 3)), both(signed(6, 3), lower(0))), at(0, 0, 1), api.ErrAcc},
		{"both voices of a column", row(both(signed(6, 3), acc(lower(0), 0, 3))), at(0, 0, 0), api.ErrAcc},
		{"the highest head of a chord", row(acc(acc(quarter(0, 2, 4), 2, 3), 0, 1)), at(0, 0, 0), api.ErrAcc},
		{"a column between without the voice", row(both(signed(6, 1), note(1, 1, 1, 0, 0)), note(1, 1, 1, 0, 0), both(signed(6, 1), lower(0))), at(0, 2, 0), api.ErrAcc},
		{"accidentals before ties", row(tied(quarter(0), 0), signed(1, 3)), at(0, 1, 0), api.ErrAcc},
	})
	for key := -4; key <= 4; key++ {
		for step := -4; step <= 12; step++ {
			for sign := 1; sign <= 3; sign++ {
				f := free(1)
				f.Key = key
				want := []int{0, 1, -1, 0}[sign]
				m, spot, e := grammar.Read(f, row(quarter(step), signed(step, sign)))
				if holdsBy(f, 0, nil, 0, step) == want {
					if e != api.ErrAcc || spot != at(0, 1, 0) {
						t.Errorf("key %d, step %d, accidental %d: %+v, error %d", key, step, sign, spot, e)
					}
					continue
				}
				if e != api.OK || m[0].Voices[0][1].Notes[0].Pitch != (api.Pitch{Step: 30 + step, Alter: want}) || m[0].Voices[0][0].Notes[0].Pitch.Alter != holdsBy(f, 0, nil, 0, step) {
					t.Errorf("key %d, step %d, accidental %d: %+v, error %d", key, step, sign, m, e)
				}
			}
		}
	}
}

func TestErrTie(t *testing.T) {
	e8 := note(1, 1, 1, 0, 0) // of the second voice
	expect(t, []trial{
		{"to another step", row(tied(quarter(0), 0), quarter(1)), at(0, 0, 0), api.ErrTie},
		{"to another octave", row(quarter(0), tied(quarter(0), 0), quarter(7)), at(0, 1, 0), api.ErrTie},
		{"to another alteration", row(tied(quarter(0), 0), acc(quarter(0), 0, 1)), at(0, 0, 0), api.ErrTie},
		{"to the same alteration", row(tied(acc(quarter(0), 0, 1), 0), quarter(0)), at(0, 0, 0), api.OK},
		{"to a rest", row(tied(quarter(0), 0), pause(0, 4), quarter(0)), at(0, 0, 0), api.ErrTie},
		{"to a chord", row(tied(quarter(2), 0), quarter(0, 2, 4)), at(0, 0, 0), api.OK},
		{"of a chord", row(tied(tied(quarter(0, 2), 0), 1), quarter(2, 4)), at(0, 0, 0), api.ErrTie},
		{"of the highest head", row(tied(tied(quarter(0, 2), 0), 1), quarter(0, 4)), at(0, 0, 0), api.ErrTie},
		{"at the end", row(quarter(0), tied(quarter(0), 0)), at(0, 0, 0), api.OK},
		{"at the end of a voice, before the last column", row(both(eighth(6), tied(lower(0), 0)), eighth(7)), at(0, 0, 0), api.OK},
		{"over a column without the voice", row(both(tied(quarter(6), 0), e8), e8, two), at(0, 0, 0), api.OK},
		{"to nothing over a column without the voice", row(both(tied(quarter(6), 0), e8), e8, both(quarter(7), lower(0))), at(0, 0, 0), api.ErrTie},
		{"the second voice", row(two, both(quarter(6), tied(lower(0), 0)), both(quarter(6), lower(1))), at(0, 1, 1), api.ErrTie},
		{"the first voice, not the first column", row(both(quarter(6), tied(lower(0), 0)), both(tied(quarter(6), 0), lower(1)), both(quarter(7), lower(0))), at(0, 1, 0), api.ErrTie},
		{"the first staff, not the first column", [][]api.Cell{{quarter(0), tied(quarter(0), 0), quarter(1)}, {tied(quarter(0), 0), quarter(1), quarter(1)}}, at(0, 1, 0), api.ErrTie},
		{"another staff", [][]api.Cell{{quarter(0), quarter(0)}, {tied(quarter(0), 0), pause(0, 4)}}, at(1, 0, 0), api.ErrTie},
	})
}
