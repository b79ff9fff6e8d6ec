package grammar_test

import (
	"slices"
	"strings"
	"testing"

	"custos/api"
	"custos/grammar"
)

// at returns a spot.
func at(staff, column, voice int) grammar.Spot {
	return grammar.Spot{Staff: staff, Column: column, Voice: voice}
}

// refuses checks that cells are not read.
func refuses(t *testing.T, name string, f grammar.Frame, l [][]api.Cell, spot grammar.Spot, errno api.Errno) {
	t.Helper()
	if m, at, e := grammar.Read(f, l); e != errno || at != spot || !zero(m) {
		t.Errorf("%s: %+v, error %d, want %+v, error %d; %v", name, at, e, spot, errno, m)
	}
}

// reads checks that cells are read as the measures of a score, each of a part.
func reads(t *testing.T, name string, f grammar.Frame, l [][]api.Cell, parts ...string) {
	t.Helper()
	text := "key " + map[int]string{-1: "-1", 0: "0", 1: "1"}[f.Key] + "\nmeter 1 4\nbars single*\n"
	for _, p := range parts {
		text += "part treble\nmeasure\nvoice " + strings.ReplaceAll(p, " ; ", "\nvoice ") + "\n"
	}
	want := measuresOf(parsed(t, text), 0)
	if m, at, e := grammar.Read(f, l); e != api.OK || at != (grammar.Spot{}) || !same(m, want) {
		t.Errorf("%s: %+v, error %d, at %+v; want %+v", name, m, e, at, want)
	}
}

// example returns the cells of the chapter's first example.
func example() [][]api.Cell {
	return row(note(1, 0, 2, 0, 0), note(1, 0, 3, 0, 1), pause(0, api.Quarter))
}

func TestReadExamples(t *testing.T) {
	f := frame(1, 2, 4, 1)
	reads(t, "the first example", f, example(), "e4/8( f#4/8) r/4")
	l := example()
	l[0][1].Beam[0] = 1
	refuses(t, "a hook in a group", f, l, at(0, 1, 0), api.ErrBeam)
	l = example()
	l[0][1].Heads[0].Acc = 1
	refuses(t, "a sharp of the key", f, l, at(0, 1, 0), api.ErrAcc)
	l = example()
	l[0][2].Rest[0] = api.Half
	refuses(t, "a half rest", f, l, at(0, 0, 0), api.ErrSum)
}

// TestEvents has all values, marks and beams.
func TestEvents(t *testing.T) {
	dotted := func(c *api.Cell) {
		for i := range c.Heads {
			c.Heads[i].Dot = true
		}
		c.RestDot[0] = c.Rest[0] != 0
	}
	triple := func(c *api.Cell) { c.Triple[0] = true }
	named := func(c *api.Cell) { c.Text = "la-" }
	reads(t, "values of notes", free(1), row(note(3, 0, 0, 0, -4), note(2, 0, 0, 0, 4), quarter(12), eighth(0), note(1, 0, 1, 1, 0)), "a3/1 b4/2 c6/4 e4/8 e4/16")
	reads(t, "values of rests", free(1), row(pause(0, 1), pause(0, 2), pause(0, 4), pause(0, 8), pause(0, 16)), "r/1 r/2 r/4 r/8 r/16")
	reads(t, "marks", free(1), row(with(note(3, 0, 0, 0, 0, 2), dotted), with(quarter(0), named), with(with(with(eighth(0), dotted), triple), named), with(pause(0, 4), dotted), with(pause(0, 4), triple), with(note(3, 0, 0, 0, 0), triple)), "e4+g4/1. e4/4_la- e4/8.t_la- r/4. r/4t e4/1t")
	reads(t, "ties", free(1), row(tied(quarter(0, 2), 1), tied(tied(quarter(2, 4), 0), 1)), "e4+g4~/4 g4~+b4~/4")
	reads(t, "beams", free(1), row(note(1, 0, 2, 0, 0), note(1, 0, 4, 0, 0), note(1, 0, 3, 0, 0), note(1, 0, 2, 2, 0), note(1, 0, 4, 4, 0), note(1, 0, 3, 3, 0)), "e4/8( e4/8= e4/8) e4/16( e4/16= e4/16)")
	reads(t, "a chord of eight", free(1), row(quarter(-4, -2, 0, 2, 4, 6, 8, 10)), "a3+c4+e4+g4+b4+d5+f5+a5/4")
	reads(t, "dots that differ from column to column", free(1), row(with(quarter(0), dotted), quarter(0)), "e4/4. e4/4")
	reads(t, "a half note with hooks' neighbours", free(1), row(eighth(0), note(2, 0, 0, 0, 0), eighth(0)), "e4/8 e4/2 e4/8")
}

// TestTwoVoices has what shows that there are two voices, and what each of them has.
func TestTwoVoices(t *testing.T) {
	lowTriple := func(c *api.Cell) { c.Triple[1] = true }
	upTriple := func(c *api.Cell) { c.Triple[0] = true }
	named := func(c *api.Cell) { c.Text = "a" }
	reads(t, "notes", free(1), row(both(quarter(5, 12), lower(-4, 3))), "c5+c6/4 ; a3+a4/4")
	reads(t, "rests", free(1), row(both(pause(1, 4), pause(2, 4))), "r/4 ; r/4")
	reads(t, "a note above, a rest below", free(1), row(both(with(quarter(6), named), pause(2, 4))), "d5/4_a ; r/4")
	reads(t, "a rest above, a note below", free(1), row(both(pause(1, 4), lower(0))), "r/4 ; e4/4")
	reads(t, "triples", free(1), row(both(with(quarter(6), upTriple), with(lower(0), lowTriple))), "d5/4t ; e4/4t")
	reads(t, "hooks", free(1), row(both(note(1, 0, 1, 1, 6), note(1, 1, 1, 1, 0))), "d5/16 ; e4/16")
	reads(t, "columns of one voice", free(1), row(both(eighth(6), lower(0)), eighth(7), both(quarter(8), note(1, 1, 1, 0, 1)), pause(2, 8)), "d5/8 e5/8 f5/4 ; e4/4 f4/8 r/8")
	reads(t, "beams through columns", free(1), row(both(note(1, 0, 2, 0, 6), note(1, 1, 2, 2, 0)), both(beams(4), note(1, 1, 3, 3, 0)), both(note(1, 0, 3, 0, 7), pause(2, 8))), "d5/8( e5/8) ; e4/16( e4/16) r/8")
	third := with(note(1, 0, 1, 1, 6), upTriple)
	reads(t, "sixteenths through columns", free(1), row(both(third, note(1, 1, 2, 2, 0)), both(third, beams(0, 0, 4, 4)), note(1, 1, 3, 3, 0), third), "d5/16t d5/16t d5/16t ; e4/16( e4/16)")
	reads(t, "one voice below, two above", free(2), [][]api.Cell{{both(quarter(5), lower(3))}, {quarter(4)}}, "c5/4 ; a4/4", "b4/4")
}

// TestClefs has the same cells in other clefs and keys.
func TestClefs(t *testing.T) {
	f := free(3)
	f.Clefs, f.Key = []api.Clef{api.Bass, api.Alto, api.Treble}, -2
	m, _, e := grammar.Read(f, [][]api.Cell{{acc(quarter(-2, 2), 0, 3)}, {quarter(-1, 4)}, {acc(quarter(0, 4), 0, 3)}})
	if e != api.OK {
		t.Fatalf("error %d", e)
	}
	for s, want := range [][]api.Pitch{{{Step: 16}, {Step: 20, Alter: -1}}, {{Step: 23, Alter: -1}, {Step: 28}}, {{Step: 30}, {Step: 34, Alter: -1}}} {
		for i, n := range m[s].Voices[0][0].Notes {
			if n.Pitch != want[i] {
				t.Errorf("staff %d: %v, want %v", s, n.Pitch, want[i])
			}
		}
	}
}

// TestForms has lists of cells of a wrong form.
func TestForms(t *testing.T) {
	f := frame(0, 5, 4, 2)
	long := func(n int) []api.Cell { return slices.Repeat([]api.Cell{quarter(0)}, n) }
	invalid := with(quarter(0), func(c *api.Cell) { c.Heads[0].Kind = 4 })
	for _, x := range []struct {
		name  string
		l     [][]api.Cell
		at    grammar.Spot
		errno api.Errno
	}{
		{"nothing", nil, at(0, 0, 0), api.ErrParts},
		{"no staff", [][]api.Cell{}, at(0, 0, 0), api.ErrParts},
		{"a staff less", [][]api.Cell{long(5)}, at(0, 0, 0), api.ErrParts},
		{"a staff more", [][]api.Cell{long(5), long(5), long(5)}, at(0, 0, 0), api.ErrParts},
		{"other lengths", [][]api.Cell{long(5), long(4)}, at(0, 0, 0), api.ErrParts},
		{"no cells in one", [][]api.Cell{long(5), nil}, at(0, 0, 0), api.ErrParts},
		{"too many in one", [][]api.Cell{long(20), long(21)}, at(0, 0, 0), api.ErrParts},
		{"no cells", [][]api.Cell{nil, {}}, at(0, 0, 0), api.ErrWide},
		{"too many cells", [][]api.Cell{long(21), long(21)}, at(0, 0, 0), api.ErrWide},
		{"very many cells", [][]api.Cell{long(100000), long(100000)}, at(0, 0, 0), api.ErrWide},
		{"most cells", [][]api.Cell{long(20), long(20)}, at(0, 0, 0), api.ErrSum},
		{"other lengths and a wrong cell", [][]api.Cell{{invalid}, {nothing, nothing}}, at(0, 0, 0), api.ErrParts},
		{"too many cells and a wrong one", [][]api.Cell{append(long(20), invalid), long(21)}, at(0, 0, 0), api.ErrWide},
		{"a wrong cell", [][]api.Cell{{nothing, nothing}, {nothing, invalid}}, at(1, 1, 0), api.ErrCell},
		{"two wrong cells", [][]api.Cell{{nothing, invalid}, {invalid, nothing}}, at(0, 1, 0), api.ErrCell},
		{"a wrong cell behind what breaks rules", [][]api.Cell{{with(nothing, func(c *api.Cell) { c.Text = "a" })}, {invalid}}, at(1, 0, 0), api.ErrCell},
	} {
		refuses(t, x.name, f, x.l, x.at, x.errno)
	}
	for _, c := range []api.Cell{{}, {Kind: 6}, {Kind: api.ClefCell, Clef: 1}, {Kind: api.KeyCell}, {Kind: api.MeterCell, Beats: 1, Unit: 4}, {Kind: api.BarCell, Bar: 1}, {Kind: api.EventCell, Key: 1}, pause(0, 3), beams(5), quarter(0, 1), quarter(13), with(nothing, func(c *api.Cell) { c.Stem[0] = true }), with(nothing, func(c *api.Cell) { c.Text = "A" }), with(nothing, func(c *api.Cell) { c.RestDot[1] = true })} {
		refuses(t, "a cell that is not valid", frame(0, 1, 4, 1), row(quarter(0), c), at(0, 1, 0), api.ErrCell)
	}
}

// TestFrameFirst has frames that are not valid: what Check says of them goes before all else, with a zero spot.
func TestFrameFirst(t *testing.T) {
	for _, x := range invalidFrames() {
		for _, l := range [][][]api.Cell{nil, example(), {{{}}}, {{}, {}}, {{quarter(0)}}} {
			refuses(t, x.name, x.f, l, at(0, 0, 0), x.errno)
		}
	}
}

// TestReadIsNew changes results, and looks whether the cells or other results change.
func TestReadIsNew(t *testing.T) {
	for _, s := range fitting(21, 60) {
		frames, _ := grammar.Frames(s)
		for i, l := range columnsOf(s) {
			was, clefs := copied(l), slices.Clone(frames[i].Clefs)
			m, _, _ := grammar.Read(frames[i], l)
			for _, one := range m {
				for v, voice := range one.Voices {
					_ = append(voice, api.Event{Value: 77})
					for e := range voice {
						_ = append(voice[e].Notes, api.Note{Pitch: api.Pitch{Step: 78}})
					}
					if v > 0 && len(m[0].Voices[0][0].Notes) > 0 {
						m[0].Voices[0][0].Notes[0].Tie = !m[0].Voices[0][0].Notes[0].Tie
					}
				}
			}
			if again, _, _ := grammar.Read(frames[i], l); !same(again, measuresOf(s, i)) {
				t.Fatal("measures were kept")
			}
			for _, one := range m {
				for _, voice := range one.Voices {
					for e := range voice {
						clear(voice[e].Notes)
					}
					clear(voice)
				}
			}
			if !same(l, was) || !slices.Equal(frames[i].Clefs, clefs) {
				t.Fatal("an argument was changed, or shares memory with the result")
			}
		}
	}
}
