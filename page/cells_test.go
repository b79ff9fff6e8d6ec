package page_test

import (
	"strings"
	"testing"

	"custos/api"
	"custos/cell"
	"custos/page"
	"custos/score"
)

// event is a cell of a column.
func event(c api.Cell) api.Cell {
	c.Kind = api.EventCell
	return c
}

// quarter is a rest alone.
var quarter = event(api.Cell{Rest: [3]api.Value{api.Quarter, 0, 0}})

// columnsOf returns the cells of a staff of a score, but for the first three.
func columnsOf(t *testing.T, s api.Score, system, staff int) []api.Cell {
	t.Helper()
	l, e := page.Cells(s)
	if e != api.OK {
		t.Fatalf("Cells: error %d", e)
	}
	return l[system][staff][3:]
}

// expect compares cells.
func expect(t *testing.T, name string, got []api.Cell, want ...api.Cell) {
	t.Helper()
	for i := range max(len(got), len(want)) {
		if i >= len(got) || i >= len(want) || !same(got[i], want[i]) {
			t.Errorf("%s, cell %d: %+v, want %+v", name, i, got[min(i, len(got)-1)], want[min(i, len(want)-1)])
			return
		}
	}
}

// accs returns the accidentals of a list of cells, upwards.
func accs(l []api.Cell) [][]int {
	var out [][]int
	for _, c := range l {
		var one []int
		for _, h := range c.Heads {
			one = append(one, h.Acc)
		}
		out = append(out, one)
	}
	return out
}

func TestCellsExamples(t *testing.T) {
	for second, acc := range map[string]int{"f#4": 0, "f4": 3, "fb4": 2} {
		l, e := page.Cells(parsed(t, strings.Replace(chapter, "%", second, 1)))
		if e != api.OK || len(l) != 1 || len(l[0]) != 1 {
			t.Fatalf("%v, error %d", l, e)
		}
		expect(t, second, l[0][0],
			api.Cell{Kind: api.ClefCell, Clef: api.Treble},
			api.Cell{Kind: api.KeyCell, Key: 1},
			api.Cell{Kind: api.MeterCell, Beats: 2, Unit: 4},
			event(api.Cell{Heads: []api.Head{{Step: 0, Kind: 1}}, Stem: [2]bool{true, false}, Beam: [4]int{2, 0, 0, 0}}),
			event(api.Cell{Heads: []api.Head{{Step: 1, Kind: 1, Acc: acc}}, Stem: [2]bool{true, false}, Beam: [4]int{3, 0, 0, 0}}),
			quarter,
			api.Cell{Kind: api.BarCell, Bar: api.Single})
	}
}

// TestValues has all values, as notes and as rests, with dots, triples, ties and texts.
func TestValues(t *testing.T) {
	up := [2]bool{true, false}
	s := piece(t, "1 4", "double* final open* close*", "bass g2/1_la g2/2. g2/4.t_a- g2+b2~/8 b2~/16 | r/4 | r/1. r/2 r/4t r/8 r/16. | r/16")
	expect(t, "values", columnsOf(t, s, 0, 0),
		event(api.Cell{Heads: []api.Head{{Step: 0, Kind: 3}}, Text: "la"}),
		event(api.Cell{Heads: []api.Head{{Step: 0, Kind: 2, Dot: true}}, Stem: up}),
		event(api.Cell{Heads: []api.Head{{Step: 0, Kind: 1, Dot: true}}, Stem: up, Triple: up, Text: "a-"}),
		event(api.Cell{Heads: []api.Head{{Step: 0, Kind: 1}, {Step: 2, Kind: 1, Tie: true}}, Stem: up, Beam: [4]int{1, 0, 0, 0}}),
		event(api.Cell{Heads: []api.Head{{Step: 2, Kind: 1, Tie: true}}, Stem: up, Beam: [4]int{1, 1, 0, 0}}),
		api.Cell{Kind: api.BarCell, Bar: api.Double, Free: true},
		quarter,
		api.Cell{Kind: api.BarCell, Bar: api.Final},
		event(api.Cell{Rest: [3]api.Value{1, 0, 0}, RestDot: [3]bool{true, false, false}}),
		event(api.Cell{Rest: [3]api.Value{2, 0, 0}}),
		event(api.Cell{Rest: [3]api.Value{4, 0, 0}, Triple: up}),
		event(api.Cell{Rest: [3]api.Value{8, 0, 0}}),
		event(api.Cell{Rest: [3]api.Value{16, 0, 0}, RestDot: [3]bool{true, false, false}}),
		api.Cell{Kind: api.BarCell, Bar: api.Open, Free: true},
		event(api.Cell{Rest: [3]api.Value{16, 0, 0}}),
		api.Cell{Kind: api.BarCell, Bar: api.Close, Free: true})
}

// TestTwoVoices has notes and rests of both voices, together and alone.
func TestTwoVoices(t *testing.T) {
	s := piece(t, "2 4", "single single", "treble c5~/4._la c5+e5/8 ; a4/8t r/4t a3+c4/8. r/16 | r/4 r/4 ; r/2", "alto r/2 ; a3/2 | r/2")
	expect(t, "treble", columnsOf(t, s, 0, 0),
		event(api.Cell{Heads: []api.Head{{Step: 3, Kind: 1}, {Step: 5, Kind: 1, Dot: true, Tie: true}}, Stem: [2]bool{true, true}, Beam: [4]int{0, 0, 1, 0}, Triple: [2]bool{false, true}, Text: "la"}),
		event(api.Cell{Rest: [3]api.Value{0, 0, 4}, Triple: [2]bool{false, true}}),
		event(api.Cell{Heads: []api.Head{{Step: -4, Kind: 1, Dot: true}, {Step: -2, Kind: 1, Dot: true}}, Stem: [2]bool{false, true}, Beam: [4]int{0, 0, 1, 0}}),
		event(api.Cell{Heads: []api.Head{{Step: 5, Kind: 1}, {Step: 7, Kind: 1}}, Stem: [2]bool{true, false}, Beam: [4]int{1, 0, 0, 0}}),
		event(api.Cell{Rest: [3]api.Value{0, 0, 16}}),
		api.Cell{Kind: api.BarCell, Bar: api.Single},
		event(api.Cell{Rest: [3]api.Value{0, 4, 2}}),
		event(api.Cell{Rest: [3]api.Value{0, 4, 0}}),
		api.Cell{Kind: api.BarCell, Bar: api.Single})
	nothing := event(api.Cell{})
	expect(t, "alto", columnsOf(t, s, 0, 1),
		event(api.Cell{Heads: []api.Head{{Step: 2, Kind: 2}}, Rest: [3]api.Value{0, 2, 0}, Stem: [2]bool{false, true}}),
		nothing, nothing, nothing, nothing,
		api.Cell{Kind: api.BarCell, Bar: api.Single},
		event(api.Cell{Rest: [3]api.Value{2, 0, 0}}),
		nothing,
		api.Cell{Kind: api.BarCell, Bar: api.Single})
}

// beamsOf returns the beams of the cells of a measure.
func beamsOf(l []api.Cell) [][4]int {
	var out [][4]int
	for _, c := range l {
		if c.Kind == api.EventCell {
			out = append(out, c.Beam)
		}
	}
	return out
}

// TestBeams has groups, hooks, rests and other notes, each with a column behind it in which only another voice has an event.
func TestBeams(t *testing.T) {
	for _, x := range []struct {
		first, second string
		want          [][4]int
	}{
		{"c5/8( c5/8= c5/8)", "r/16 r/16 r/16 r/16 r/16 r/16", [][4]int{{2}, {4}, {4}, {4}, {3}, {}}},
		{"c5/16( c5/16= c5/16= c5/16)", "r/16t r/8t r/16t r/8t", [][4]int{{2, 2}, {4, 4}, {4, 4}, {4, 4}, {4, 4}, {3, 3}}},
		{"r/16t r/8t r/16t r/8t", "a4/16( a4/16= a4/16= a4/16)", [][4]int{{0, 0, 2, 2}, {0, 0, 4, 4}, {0, 0, 4, 4}, {0, 0, 4, 4}, {0, 0, 4, 4}, {0, 0, 3, 3}}},
		{"c5/8 c5/16 r/16", "r/16t r/16t r/16t r/16t r/16t r/16t", [][4]int{{1}, {}, {}, {1, 1}, {}, {}, {}}},
		{"c5/8.( c5/8)", "a4/8( a4/8.)", [][4]int{{2, 0, 2, 0}, {4, 0, 3, 0}, {3, 0, 0, 0}}},
		{"c5/16( c5/16) c5/4", "a4/8( a4/8) a4/8", [][4]int{{2, 2, 2, 0}, {3, 3, 4, 0}, {0, 0, 3, 0}, {0, 0, 1, 0}}},
		{"r/8 r/8", "r/16 r/8 r/16", [][4]int{{}, {}, {}, {}}},
		{"c5/2", "a4/16 a4/4 a4/8 a4/16", [][4]int{{0, 0, 1, 1}, {}, {0, 0, 1, 0}, {0, 0, 1, 1}}},
	} {
		text := "key 0\nmeter 1 4\nbars single*\npart treble\nmeasure\nvoice " + x.first + "\nvoice " + x.second + "\n"
		if got := beamsOf(columnsOf(t, parsed(t, text), 0, 0)); !same(got, x.want) {
			t.Errorf("%s ; %s: %v, want %v", x.first, x.second, got, x.want)
		}
	}
}

// TestAccidentals follows what holds in a measure.
func TestAccidentals(t *testing.T) {
	for _, x := range []struct {
		key      string
		measures []string
		want     [][]int
	}{
		{"0", []string{"f4/4 f#4/4 f#4/4 f4/4 fb4/4 f#4/4"}, [][]int{{0}, {1}, {0}, {3}, {2}, {1}}},
		{"2", []string{"f#4/4 f4/4 c#5/4 c5/4 c4/4 f5/4"}, [][]int{{0}, {3}, {0}, {3}, {3}, {3}}},
		{"-2", []string{"bb4/4 b4/4 bb4/4 e4+eb5/4"}, [][]int{{0}, {3}, {2}, {3, 0}}},
		{"0", []string{"f#4/4", "f#4/4 f#4/4", "f4/4"}, [][]int{{1}, nil, {1}, {0}, nil, {0}}},
		{"0", []string{"c#5/4 r/4 c#5/4 ; a4/8 ab4/8 g#4/4 a4/4"}, [][]int{{0, 1}, {2}, {1}, {3, 0}}},
		{"0", []string{"d#4~+a4+c#5/4 d#4+ab4+c5/4"}, [][]int{{1, 0, 1}, {0, 2, 3}}},
	} {
		bars := strings.TrimSpace(strings.Repeat("single* ", len(x.measures)))
		text := "key " + x.key + "\nmeter 1 4\nbars " + bars + "\npart treble\n"
		for _, m := range x.measures {
			text += "measure\nvoice " + strings.ReplaceAll(m, " ; ", "\nvoice ") + "\n"
		}
		got := accs(columnsOf(t, parsed(t, text), 0, 0))
		if !same(got[:len(got)-1], x.want) {
			t.Errorf("key %s, %v: %v, want %v", x.key, x.measures, got, x.want)
		}
	}
}

// TestAccidentalsOfParts has parts and systems that do not hear each other.
func TestAccidentalsOfParts(t *testing.T) {
	s := piece(t, "1 4", "single single", "treble f#4/4 | r/4", "treble r/8 f#4/8 | f4/4")
	for staff, want := range [][][]int{{{1}, nil, nil, nil, nil}, {nil, {1}, nil, {0}, nil}} {
		if got := accs(columnsOf(t, s, 0, staff)); !same(got, want) {
			t.Errorf("staff %d: %v, want %v", staff, got, want)
		}
	}
	s = long(t, 2, 20)
	for m := range 2 {
		s.Parts[0].Measures[m].Voices[0][19].Notes = []api.Note{{Pitch: api.Pitch{Step: 31, Alter: -1}}}
	}
	for system := range 2 {
		if got := accs(columnsOf(t, s, system, 0)); !same(got[19], []int{2}) {
			t.Errorf("system %d: %v", system, got)
		}
	}
}

func TestCellsByDefinition(t *testing.T) {
	for _, s := range fitting(4, 1500) {
		l, e := page.Cells(s)
		if e != api.OK || !same(l, cellsBy(s)) {
			text, _ := score.Format(s)
			t.Fatalf("error %d, cells\n%+v\nwant\n%+v\nof\n%s", e, l, cellsBy(s), text)
		}
		for _, system := range l {
			for _, staff := range system {
				for _, c := range staff {
					if cell.Check(c) != api.OK {
						t.Fatalf("a cell that is not valid: %+v", c)
					}
				}
			}
		}
	}
}

// TestCellsAreNew changes results, and looks whether others or the score change.
func TestCellsAreNew(t *testing.T) {
	for _, s := range fitting(5, 100) {
		was, want := score.Copy(s), cellsBy(s)
		l, _ := page.Cells(s)
		for _, system := range l {
			for _, staff := range system {
				for i, c := range staff {
					for h := range c.Heads {
						c.Heads[h] = api.Head{Step: 77}
					}
					_ = append(c.Heads, api.Head{Step: 78})
					staff[i].Heads = nil
				}
				_ = append(staff, api.Cell{Kind: 9})
			}
		}
		if !score.Same(s, was) {
			t.Fatal("the score was changed")
		}
		l, _ = page.Cells(s)
		scribble(s)
		if !same(l, want) {
			t.Fatal("cells were kept, or share memory with the score")
		}
	}
}
