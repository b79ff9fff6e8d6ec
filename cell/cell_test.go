package cell_test

import (
	"math"
	"math/big"
	"math/rand"
	"slices"
	"strings"
	"testing"

	"custos/api"
	"custos/cell"
)

func TestRow(t *testing.T) {
	for step, want := range map[int]int{0: 60, 2: 54, 4: 48, 6: 42, 8: 36, 12: 24, 10: 30, -2: 66, -4: 72, 1: 57, -1: 63, 20: 0, 21: -3, -1000: 3060} {
		if y := cell.Row(step); y != want {
			t.Errorf("Row(%d) is %d", step, y)
		}
	}
}

// TestRowWraps has steps whose rows do not fit an int.
func TestRowWraps(t *testing.T) {
	all := new(big.Int).Lsh(big.NewInt(1), 64)
	for _, step := range append([]int{math.MaxInt / 3, math.MaxInt/3 + 1, math.MinInt / 3, math.MinInt/3 - 1, math.MinInt/3 + 20, math.MinInt/3 + 21}, extremes...) {
		want := new(big.Int).Mul(big.NewInt(int64(step)), big.NewInt(-3))
		want.Mod(want.Add(want, big.NewInt(60)), all)
		if y := cell.Row(step); y != int(want.Uint64()) {
			t.Errorf("Row(%d) is %d, want %d", step, y, int(want.Uint64()))
		}
	}
}

func TestLines(t *testing.T) {
	want := []int{36, 42, 48, 54, 60}
	l := cell.Lines()
	if !slices.Equal(l, want) {
		t.Error(l)
	}
	l[0] = 1
	if l := cell.Lines(); !slices.Equal(l, want) {
		t.Error("changed:", l)
	}
}

func TestConstants(t *testing.T) {
	if cell.Width != 24 || cell.Height != 108 || cell.HeadMost != 3 || cell.BarMost != 6 {
		t.Error("the constants")
	}
}

// checked has what Check, Draw and Bare say of a cell, and reports an error if they differ in it.
func checked(t *testing.T, c api.Cell) api.Errno {
	t.Helper()
	e := cell.Check(c)
	drawn, f := cell.Draw(c)
	bare, g := cell.Bare(c)
	if e != f || e != g || e != api.OK && e != api.ErrCell {
		t.Errorf("errors %d, %d and %d for %+v", e, f, g, c)
	}
	if e != api.OK && (!zero(drawn) || !zero(bare)) {
		t.Errorf("an image with an error for %+v", c)
	}
	return e
}

func TestValidCells(t *testing.T) {
	long := api.Head{Step: 12, Kind: 3, Acc: 3, Dot: true, Tie: true}
	both := [2]bool{true, true}
	for _, c := range append(ordinary(), []api.Cell{
		event(nil),
		event([]api.Head{}),
		event(black(-4, -2, 0, 2, 4, 6, 8, 10, 12)),
		event(black(-3, -1, 1, 3, 5, 7, 9, 11)),
		event([]api.Head{{Step: -4, Kind: 2, Acc: 1}, {Step: 4, Kind: 1, Acc: 2}, long}),
		rest(1, 0, 0), rest(2, 0, 0), rest(4, 0, 0), rest(8, 0, 0), rest(16, 0, 0),
		rest(0, 1, 16), rest(0, 0, 2), rest(0, 8, 0),
		{Kind: api.EventCell, Heads: black(4), Rest: [3]api.Value{0, 4, 4}, RestDot: [3]bool{false, true, true}},
		{Kind: api.EventCell, Heads: black(-4, 3), Rest: [3]api.Value{0, 4, 0}},
		{Kind: api.EventCell, Heads: black(5, 12), Rest: [3]api.Value{0, 0, 4}},
		{Kind: api.EventCell, Rest: [3]api.Value{4, 0, 0}, RestDot: [3]bool{true, false, false}},
		{Kind: api.EventCell, Heads: black(-4), Stem: [2]bool{true, false}},
		{Kind: api.EventCell, Heads: black(12), Stem: [2]bool{false, true}},
		{Kind: api.EventCell, Heads: black(4, 6), Stem: both},
		{Kind: api.EventCell, Heads: black(3, 5), Stem: both},
		{Kind: api.EventCell, Heads: []api.Head{long}, Stem: [2]bool{true, false}},
		{Kind: api.EventCell, Beam: [4]int{4, 3, 2, 1}},
		{Kind: api.EventCell, Triple: both, Text: "a"},
		{Kind: api.EventCell, Text: "zzzz"},
		{Kind: api.EventCell, Text: "abc-"},
		{Kind: api.EventCell, Text: "q-"},
	}...) {
		if e := checked(t, c); e != api.OK {
			t.Errorf("%+v: error %d", c, e)
		}
	}
}

func TestInvalidKinds(t *testing.T) {
	for _, kind := range noKinds {
		if checked(t, api.Cell{Kind: kind}) != api.ErrCell || checked(t, api.Cell{Kind: kind, Clef: 1}) != api.ErrCell {
			t.Error("a cell of kind", kind)
		}
	}
}

// TestOneFieldMore gives each field of other kinds to valid cells.
func TestOneFieldMore(t *testing.T) {
	ofEvents := []func(c *api.Cell){
		func(c *api.Cell) { c.Heads = black(4) },
		func(c *api.Cell) { c.Rest[0] = 4 }, func(c *api.Cell) { c.Rest[1] = 4 }, func(c *api.Cell) { c.Rest[2] = 4 },
		func(c *api.Cell) { c.RestDot[0] = true }, func(c *api.Cell) { c.RestDot[1] = true }, func(c *api.Cell) { c.RestDot[2] = true },
		func(c *api.Cell) { c.Stem[0] = true }, func(c *api.Cell) { c.Stem[1] = true },
		func(c *api.Cell) { c.Beam[0] = 1 }, func(c *api.Cell) { c.Beam[1] = 1 }, func(c *api.Cell) { c.Beam[2] = 1 }, func(c *api.Cell) { c.Beam[3] = 1 },
		func(c *api.Cell) { c.Triple[0] = true }, func(c *api.Cell) { c.Triple[1] = true },
		func(c *api.Cell) { c.Text = "a" },
	}
	fields := map[api.Kind][]func(c *api.Cell){
		api.ClefCell:  {func(c *api.Cell) { c.Clef = 1 }},
		api.KeyCell:   {func(c *api.Cell) { c.Key = 1 }},
		api.MeterCell: {func(c *api.Cell) { c.Beats = 2 }, func(c *api.Cell) { c.Unit = 4 }},
		api.BarCell:   {func(c *api.Cell) { c.Bar = 1 }, func(c *api.Cell) { c.Free = true }},
		api.EventCell: ofEvents,
	}
	for _, c := range append(ordinary(), event(nil), event(black(2)), rest(4, 0, 0)) {
		for kind, l := range fields {
			for i, set := range l {
				other := c
				set(&other)
				if kind != c.Kind && checked(t, other) != api.ErrCell {
					t.Errorf("kind %d with field %d of kind %d", c.Kind, i, kind)
				}
			}
		}
	}
}

func TestInvalidFields(t *testing.T) {
	for _, n := range append([]int{-9, -5, -1, 0, 3, 5, 6, 7, 9, 10, 13, 16}, extremes...) {
		for i, x := range []struct {
			c     api.Cell
			right bool
		}{
			{api.Cell{Kind: api.ClefCell, Clef: api.Clef(n)}, n >= 1 && n <= 3},
			{api.Cell{Kind: api.KeyCell, Key: n}, n >= -4 && n <= 4},
			{api.Cell{Kind: api.MeterCell, Beats: n, Unit: 4}, n >= 1 && n <= 9},
			{api.Cell{Kind: api.MeterCell, Beats: 4, Unit: n}, n == 2 || n == 4 || n == 8},
			{api.Cell{Kind: api.BarCell, Bar: api.Bar(n)}, n >= 1 && n <= 5},
			{api.Cell{Kind: api.BarCell, Bar: api.Bar(n), Free: true}, n >= 1 && n <= 5},
			{event(black(n)), n >= -4 && n <= 12},
			{event([]api.Head{{Step: 4, Kind: n}}), n >= 1 && n <= 3},
			{event([]api.Head{{Step: 4, Kind: 1, Acc: n}}), n >= 0 && n <= 3},
			{rest(api.Value(n), 0, 0), slices.Contains(restValues, api.Value(n))},
			{rest(0, api.Value(n), 0), slices.Contains(restValues, api.Value(n))},
			{rest(0, 0, api.Value(n)), slices.Contains(restValues, api.Value(n))},
			{api.Cell{Kind: api.EventCell, Beam: [4]int{n, 0, 0, 0}}, n >= 0 && n <= 4},
			{api.Cell{Kind: api.EventCell, Beam: [4]int{4, 4, 4, n}}, n >= 0 && n <= 4},
		} {
			if right := checked(t, x.c) == api.OK; right != x.right {
				t.Errorf("field %d with %d: %v", i, n, right)
			}
		}
	}
}

func TestInvalidHeads(t *testing.T) {
	for _, l := range [][]api.Head{
		black(4, 4), black(4, 5), black(4, 3), black(6, 4), black(0, 2, 4, 5), black(0, 2, 1), black(-6), black(-5, 0), black(11, 13),
		black(math.MinInt, math.MaxInt), black(math.MaxInt, math.MinInt), black(0, math.MinInt), black(-4, math.MaxInt),
		black(0, 2, 0, 2), {{Step: 0, Kind: 1}, {}}, {{Step: 4, Kind: 1}, {Step: 6, Kind: 4}}, {{Step: 4, Kind: 1}, {Step: 6, Kind: 1, Acc: -1}},
		slices.Repeat(black(0), 100000),
	} {
		if checked(t, event(l)) != api.ErrCell {
			t.Errorf("%.200v", l)
		}
	}
}

func TestInvalidRests(t *testing.T) {
	for _, c := range []api.Cell{
		rest(4, 4, 0), rest(4, 0, 4), rest(4, 4, 4), rest(1, 0, 1),
		{Kind: api.EventCell, Heads: black(4), Rest: [3]api.Value{4, 0, 0}},
		{Kind: api.EventCell, Heads: black(12), Rest: [3]api.Value{4, 0, 0}},
		{Kind: api.EventCell, Heads: black(5), Rest: [3]api.Value{0, 4, 0}},
		{Kind: api.EventCell, Heads: black(0, 4, 12), Rest: [3]api.Value{0, 4, 0}},
		{Kind: api.EventCell, Heads: black(3), Rest: [3]api.Value{0, 0, 4}},
		{Kind: api.EventCell, Heads: black(-4, 6), Rest: [3]api.Value{0, 0, 4}},
		{Kind: api.EventCell, RestDot: [3]bool{true, false, false}},
		{Kind: api.EventCell, RestDot: [3]bool{false, true, false}},
		{Kind: api.EventCell, RestDot: [3]bool{false, false, true}},
		{Kind: api.EventCell, Rest: [3]api.Value{0, 4, 0}, RestDot: [3]bool{false, false, true}},
		{Kind: api.EventCell, Rest: [3]api.Value{0, 0, 4}, RestDot: [3]bool{false, true, true}},
		{Kind: api.EventCell, Rest: [3]api.Value{4, 0, 0}, RestDot: [3]bool{true, true, false}},
	} {
		if checked(t, c) != api.ErrCell {
			t.Errorf("%+v", c)
		}
	}
}

func TestInvalidStemsAndTexts(t *testing.T) {
	both := [2]bool{true, true}
	for _, c := range []api.Cell{
		{Kind: api.EventCell, Stem: [2]bool{true, false}},
		{Kind: api.EventCell, Stem: [2]bool{false, true}, Rest: [3]api.Value{4, 0, 0}},
		{Kind: api.EventCell, Stem: both},
		{Kind: api.EventCell, Stem: both, Heads: black(5)},
		{Kind: api.EventCell, Stem: both, Heads: black(5, 12)},
		{Kind: api.EventCell, Stem: both, Heads: black(4)},
		{Kind: api.EventCell, Stem: both, Heads: black(-4, 0, 4)},
	} {
		if checked(t, c) != api.ErrCell {
			t.Errorf("%+v", c)
		}
	}
	for _, text := range []string{"-", "--", "a--", "-a", "a-b", "abcde", "abcd-", "A", "aB", "1", "a1", " ", "a ", " a", "a b", "é", "ß-", "a\x00", "\x00", "`", "{", "a\xff", "~", strings.Repeat("a", 1<<20)} {
		if checked(t, api.Cell{Kind: api.EventCell, Text: text}) != api.ErrCell {
			t.Errorf("the text %.20q", text)
		}
	}
}

// TestCheckByDefinition spoils valid cells.
func TestCheckByDefinition(t *testing.T) {
	r := rand.New(rand.NewSource(1))
	wrong := 0
	for range 20000 {
		c := someCell(r)
		for range r.Intn(3) {
			spoil(r, &c)
		}
		right := rightCell(c)
		if !right {
			wrong++
		}
		if (cell.Check(c) == api.OK) != right {
			t.Errorf("%+v: right is %v", c, right)
		}
	}
	if wrong < 5000 || wrong > 15000 {
		t.Error("cells that are wrong:", wrong)
	}
}

// spoil changes one field of a cell.
func spoil(r *rand.Rand, c *api.Cell) {
	n := r.Intn(8) - 1
	switch r.Intn(18) {
	case 0:
		c.Kind = api.Kind(n)
	case 1:
		c.Clef = api.Clef(n)
	case 2:
		c.Key = n - 3
	case 3:
		c.Beats = n
	case 4:
		c.Unit = n
	case 5:
		c.Bar = api.Bar(n)
	case 6:
		c.Free = !c.Free
	case 7, 8:
		c.Heads = someHeads(r)
	case 9, 10:
		if len(c.Heads) > 0 {
			c.Heads = slices.Clone(c.Heads)
			c.Heads[r.Intn(len(c.Heads))].Step += n - 3
		}
	case 11, 12:
		c.Rest[r.Intn(3)] = restValues[r.Intn(6)]
	case 13:
		c.RestDot[r.Intn(3)] = r.Intn(2) == 0
	case 14, 15:
		c.Stem[r.Intn(2)] = r.Intn(2) == 0
	case 16:
		c.Beam[r.Intn(4)] = n
	case 17:
		c.Text = []string{"", "a", "-", "ab-", "abcde", "a-a"}[r.Intn(6)]
	}
}

func TestMiss(t *testing.T) {
	r := rand.New(rand.NewSource(2))
	for _, c := range append(ordinary(), event(black(4)), rest(0, 4, 1), someEvent(r), someEvent(r)) {
		k := bare(t, c)
		for n := range 60 {
			if m, e := cell.Miss(c, k); m != n || e != api.OK {
				t.Fatalf("%+v: %d pixels, Miss is %d, error %d", c, n, m, e)
			}
			flip(k, n%24, n*7%108)
		}
	}
	c := event(black(4))
	drawn, _ := cell.Draw(c)
	// Of the five lines, row 48 has six pixels in the head.
	if m, e := cell.Miss(c, drawn); m != 5*24-6 || e != api.OK {
		t.Error("of the drawn cell:", m, e)
	}
	if m, e := cell.Miss(c, plain(24, 108, 1)); m != 24*108-26 || e != api.OK {
		t.Error("of ink:", m, e)
	}
	if m, e := cell.Miss(event(nil), plain(24, 108, 1)); m != 24*108 || e != api.OK {
		t.Error("of ink, and nothing in the cell:", m, e)
	}
	if m, e := cell.Miss(api.Cell{Kind: api.BarCell, Bar: api.Double, Free: true}, paper()); m != 54 || e != api.OK {
		t.Error("of paper:", m, e)
	}
}

func TestMissErrors(t *testing.T) {
	for i, k := range unsuitable() {
		if m, e := cell.Miss(event(black(4)), k); m != 0 || e != api.ErrSize {
			t.Error(i, m, e)
		}
		if m, e := cell.Miss(api.Cell{}, k); m != 0 || e != api.ErrCell {
			t.Error(i, "and an invalid cell", m, e)
		}
	}
	for _, c := range []api.Cell{{}, event(black(4, 5)), {Kind: api.ClefCell, Clef: 4}} {
		if m, e := cell.Miss(c, paper()); m != 0 || e != api.ErrCell {
			t.Error(m, e)
		}
	}
}
