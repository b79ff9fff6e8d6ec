package page_test

import (
	"math/rand"
	"slices"
	"strings"
	"testing"

	"custos/api"
	"custos/cell"
	"custos/font"
	"custos/page"
)

// alto is a cell.
var alto = api.Cell{Kind: api.ClefCell, Clef: api.Alto}

// grid returns systems of one cell, of which each has some staves with some slots.
func grid(systems, staves, slots int) [][][]api.Cell {
	l := make([][][]api.Cell, systems)
	for i := range l {
		for range staves {
			l[i] = append(l[i], slices.Repeat([]api.Cell{alto}, slots))
		}
	}
	return l
}

// invalidCells has cells that are not valid.
var invalidCells = []api.Cell{{}, {Kind: 6}, {Kind: api.ClefCell}, {Kind: api.EventCell, Stem: [2]bool{true, false}}, {Kind: api.BarCell, Bar: 1, Text: "a"}, {Kind: api.EventCell, Heads: []api.Head{{Step: 13, Kind: 1}}}}

func TestComposeErrors(t *testing.T) {
	with := func(l [][][]api.Cell, system, staff, slot int, c api.Cell) [][][]api.Cell {
		l[system][staff][slot] = c
		return l
	}
	for _, x := range []struct {
		name  string
		l     [][][]api.Cell
		errno api.Errno
	}{
		{"nothing", nil, api.ErrArg},
		{"no systems", [][][]api.Cell{}, api.ErrArg},
		{"no staves", grid(1, 0, 0), api.ErrArg},
		{"no staves in the last system", append(grid(1, 1, 1), nil), api.ErrArg},
		{"no slots", grid(1, 1, 0), api.ErrArg},
		{"no slots in all staves", grid(2, 2, 0), api.ErrArg},
		{"too many staves", grid(1, 4, 1), api.ErrArg},
		{"most staves", grid(1, 3, 1), api.OK},
		{"too many slots", grid(1, 1, 25), api.ErrArg},
		{"most slots", grid(1, 1, 24), api.OK},
		{"other slots", [][][]api.Cell{{{alto, alto}, {alto}}}, api.ErrArg},
		{"more slots", [][][]api.Cell{{{alto}, {alto, alto}}}, api.ErrArg},
		{"no slots behind", [][][]api.Cell{{{alto}, {}}}, api.ErrArg},
		{"other slots in another system", append(grid(1, 2, 3), grid(1, 2, 1)...), api.OK},
		{"fewer staves", append(grid(1, 2, 1), grid(1, 1, 1)...), api.ErrArg},
		{"more staves", append(grid(1, 1, 1), grid(1, 2, 1)...), api.ErrArg},
		{"most strips", grid(5, 1, 1), api.OK},
		{"too many strips", grid(6, 1, 1), api.ErrLong},
		{"most strips in pairs", grid(2, 2, 1), api.OK},
		{"too many strips in pairs", grid(3, 2, 1), api.ErrLong},
		{"too many strips of three", grid(2, 3, 1), api.ErrLong},
		{"very many strips", grid(1000, 3, 1), api.ErrLong},
		{"a wrong size behind too many strips", append(grid(6, 1, 1), grid(1, 1, 25)...), api.ErrArg},
		{"a wrong cell before a wrong size", append(with(grid(1, 1, 1), 0, 0, 0, api.Cell{}), grid(1, 2, 1)...), api.ErrArg},
		{"a wrong cell and too many strips", with(grid(6, 1, 1), 0, 0, 0, api.Cell{}), api.ErrLong},
		{"a wrong cell at the end", with(grid(2, 2, 4), 1, 1, 3, api.Cell{Kind: api.MeterCell, Beats: 10, Unit: 4}), api.ErrCell},
	} {
		k, e := page.Compose(x.l)
		if e != x.errno || e != api.OK && !zero(k) {
			t.Errorf("%s: error %d, want %d", x.name, e, x.errno)
		}
	}
	for _, c := range invalidCells {
		if k, e := page.Compose([][][]api.Cell{{{alto, c}}}); e != api.ErrCell || !zero(k) {
			t.Errorf("%+v: error %d", c, e)
		}
	}
}

// TestPicture has a page of two systems, of which the second one has fewer slots, as a list of rectangles of ink.
func TestPicture(t *testing.T) {
	k, e := page.Compose([][][]api.Cell{
		{{alto, {Kind: api.EventCell}}, {{Kind: api.EventCell}, {Kind: api.BarCell, Bar: api.Double}}},
		{{{Kind: api.EventCell}}, {{Kind: api.EventCell, Rest: [3]api.Value{api.Whole, 0, 0}}}},
	})
	want := api.Ink{W: 52, H: 432, Pix: make([]byte, 52*432)}
	for _, y := range []int{36, 42, 48, 54, 60, 144, 150, 156, 162, 168, 252, 258, 264, 270, 276, 360, 366, 372, 378, 384} {
		fill(want, 0, y, 52, 1)
	}
	fill(want, 1, 36, 1, 133) // what joins the first two staves
	fill(want, 1, 252, 1, 133)
	fill(want, 11, 47, 2, 3) // the clef
	fill(want, 12, 46, 5, 1)
	fill(want, 12, 50, 5, 1)
	fill(want, 38, 144, 1, 25) // the barline
	fill(want, 40, 144, 1, 25)
	fill(want, 12, 373, 4, 2) // the rest
	if e != api.OK || !sameInk(k, want) {
		t.Errorf("error %d:\n%s", e, font.Show(k))
	}
}

// fill makes a rectangle ink, in the image itself.
func fill(k api.Ink, x, y, w, h int) {
	for i := range w * h {
		k.Pix[(y+i/w)*k.W+x+i%w] = 1
	}
}

// TestComposeByDefinition has any valid cells in any places.
func TestComposeByDefinition(t *testing.T) {
	r := rand.New(rand.NewSource(6))
	var some []api.Cell
	for _, s := range fitting(7, 40) {
		for _, system := range cellsBy(s) {
			for _, staff := range system {
				some = append(some, staff...)
			}
		}
	}
	for range 60 {
		staves := 1 + r.Intn(3)
		l := make([][][]api.Cell, 1+r.Intn(5/staves))
		for i := range l {
			slots := 1 + r.Intn(24)
			for range staves {
				var staff []api.Cell
				for range slots {
					staff = append(staff, some[r.Intn(len(some))])
				}
				l[i] = append(l[i], staff)
			}
		}
		if k, e := page.Compose(l); e != api.OK || !sameInk(k, pageBy(l)) {
			t.Fatalf("error %d:\n%s", e, font.Show(k))
		}
	}
}

func TestDraw(t *testing.T) {
	k, e := page.Draw(parsed(t, strings.Replace(chapter, "%", "f#4", 1)))
	if e != api.OK || k.W != 172 || k.H != 108 {
		t.Fatalf("%d columns, %d rows, error %d", k.W, k.H, e)
	}
	for _, s := range fitting(8, 100) {
		if k, e := page.Draw(s); e != api.OK || !sameInk(k, pageBy(cellsBy(s))) {
			t.Fatalf("error %d:\n%s", e, font.Show(k))
		}
	}
	// The largest page has as many strips and slots as there may be.
	if k, e := page.Draw(long(t, 5, 20)); e != api.OK || k.W != 580 || k.H != 540 || !font.Right(k) {
		t.Errorf("%d columns, %d rows, error %d", k.W, k.H, e)
	}
}

// TestPagesAreNew changes results, and looks whether others change.
func TestPagesAreNew(t *testing.T) {
	l := [][][]api.Cell{{{alto, {Kind: api.EventCell, Heads: []api.Head{{Step: 1, Kind: 3}}}}}}
	k, _ := page.Compose(l)
	clear(k.Pix)
	if !same(l, [][][]api.Cell{{{alto, {Kind: api.EventCell, Heads: []api.Head{{Step: 1, Kind: 3}}}}}}) {
		t.Error("the cells were changed")
	}
	if again, _ := page.Compose(l); !sameInk(again, pageBy(l)) {
		t.Error("a page was kept")
	}
	s, _ := page.Staves(2, 1)
	for i := range s {
		for j := range s[i].Lines {
			for x := range s[i].Lines[j] {
				if s[i].Lines[j][x] != 108*i+staffLines[j] {
					t.Error("lines share memory")
				}
				s[i].Lines[j][x] = -1
			}
			_ = append(s[i].Lines[j], -2)
		}
		clear(s[i].Lines)
	}
	if again, _ := page.Staves(2, 1); again[1].Lines[4][27] != 168 {
		t.Error("staves were kept")
	}
}

func TestStaves(t *testing.T) {
	for strips := 1; strips <= 5; strips++ {
		for slots := 1; slots <= 24; slots++ {
			l, e := page.Staves(strips, slots)
			if e != api.OK || len(l) != strips {
				t.Fatalf("%d strips, %d slots: %d staves, error %d", strips, slots, len(l), e)
			}
			for i, s := range l {
				if len(s.Lines) != 5 {
					t.Fatalf("%d lines", len(s.Lines))
				}
				for j, line := range s.Lines {
					if !slices.Equal(line, slices.Repeat([]int{108*i + staffLines[j]}, 4+24*slots)) {
						t.Errorf("%d strips, %d slots: line %d of stave %d is %v", strips, slots, j, i, line)
					}
				}
			}
		}
	}
	for _, n := range append([]int{-1, 0, 25, 26}, extremes...) {
		if l, e := page.Staves(1, n); e != api.ErrArg || !zero(l) {
			t.Errorf("%d slots: %v, error %d", n, l, e)
		}
		if l, e := page.Staves(n, 1); e != api.ErrArg || !zero(l) {
			t.Errorf("%d strips: %v, error %d", n, l, e)
		}
	}
	if l, e := page.Staves(6, 24); e != api.ErrArg || !zero(l) {
		t.Errorf("6 strips: %v, error %d", l, e)
	}
}

// TestSizes holds what the chapter says against the numbers of layer 7.
func TestSizes(t *testing.T) {
	if cell.Width != 24 || cell.Height != 108 || !slices.Equal(cell.Lines(), staffLines) {
		t.Error("cells of another size")
	}
}
