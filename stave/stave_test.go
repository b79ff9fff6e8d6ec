package stave_test

import (
	"math"
	"math/rand"
	"slices"
	"testing"

	"custos/api"
	"custos/stave"
)

// isStave reports whether five lines are a stave, by the definition. Its rows are small numbers.
func isStave(l [][]int) bool {
	n := len(l[0])
	if slices.ContainsFunc(l, func(line []int) bool { return len(line) != n || n == 0 }) {
		return false
	}
	var gaps []int
	for i := range 4 {
		gaps = append(gaps, l[i+1][0]-l[i][0], l[i+1][n-1]-l[i][n-1])
	}
	return slices.Min(gaps) >= 2 && slices.Max(gaps) <= 64 && slices.Max(gaps)-slices.Min(gaps) <= 2
}

// grouped is Staves by its definition.
func grouped(lines [][]int) []api.Stave {
	var l []api.Stave
	for i := 0; i+5 <= len(lines); {
		if isStave(lines[i : i+5]) {
			l = append(l, api.Stave{Lines: lines[i : i+5]})
			i += 5
		} else {
			i++
		}
	}
	return l
}

func TestStaves(t *testing.T) {
	for _, x := range []struct {
		rows  []int
		first []int
	}{
		{nil, nil},
		{[]int{4, 10, 16, 22}, nil},
		{[]int{4, 10, 16, 22, 28}, []int{0}},
		{[]int{4, 10, 16, 22, 31}, nil},
		{[]int{4, 10, 16, 22, 30}, []int{0}},
		{[]int{4, 12, 18, 24, 30}, []int{0}},
		{[]int{4, 13, 19, 25, 31}, nil},
		{[]int{4, 10, 16, 22, 26}, []int{0}},
		{[]int{4, 10, 16, 22, 25}, nil},
		{[]int{4, 10, 15, 22, 28}, []int{0}},
		{[]int{4, 11, 15, 22, 28}, nil},
		{[]int{1, 4, 10, 16, 22, 28}, []int{1}},
		{[]int{1, 2, 4, 10, 16, 22, 28, 90}, []int{2}},
		{[]int{4, 10, 16, 22, 28, 34, 40, 46, 52, 58}, []int{0, 5}},
		{[]int{4, 10, 16, 22, 28, 34, 40, 46, 52}, []int{0}},
		{[]int{4, 10, 16, 22, 28, 60, 66, 72, 78, 84}, []int{0, 5}},
		{[]int{4, 10, 16, 22, 28, 50, 60, 66, 72, 78, 84}, []int{0, 6}},
		{[]int{0, 2, 4, 6, 8}, []int{0}},
		{[]int{0, 1, 2, 3, 4}, nil},
		{[]int{0, 2, 4, 6, 7}, nil},
		{[]int{0, 64, 128, 192, 256}, []int{0}},
		{[]int{0, 64, 128, 192, 257}, nil},
		{[]int{0, 65, 130, 195, 260}, nil},
		{[]int{8, 6, 4, 2, 0}, nil},
		{[]int{5, 5, 5, 5, 5}, nil},
		{[]int{-30, -24, -18, -12, -6}, []int{0}},
	} {
		for _, w := range []int{1, 2, 3, 640} {
			lines := flat(w, x.rows...)
			var want []api.Stave
			for _, i := range x.first {
				want = append(want, api.Stave{Lines: lines[i : i+5]})
			}
			if l := stave.Staves(lines); !sameStaves(l, want) {
				t.Errorf("Staves of %v: %d staves, want %d", x.rows, len(l), len(want))
			}
		}
	}
}

// TestStavesWithGreatNumbers has differences that overflow an int: they are no gaps.
func TestStavesWithGreatNumbers(t *testing.T) {
	for _, x := range []struct {
		first, gap int
		want       bool
	}{
		{math.MaxInt - 24, 6, true},
		{math.MaxInt - 23, 6, false},
		{math.MaxInt - 10, 6, false},
		{math.MaxInt - 3, 6, false},
		{math.MinInt, 6, true},
		{math.MinInt + 23, -6, false},
		{0, math.MaxInt, false},
		{0, math.MinInt, false},
	} {
		lines := flat(2, 0, 0, 0, 0, 0)
		row := x.first
		for _, l := range lines {
			l[0], l[1] = row, row
			row += x.gap
		}
		if l := stave.Staves(lines); len(l) == 1 != x.want {
			t.Errorf("lines from %d on, %d apart: %v", x.first, x.gap, l)
		}
	}
}

// TestStavesAtTheEnds changes lines in their first column, in their last one, and between them.
func TestStavesAtTheEnds(t *testing.T) {
	for i := range 5 {
		for _, d := range []int{-3, -2, -1, 0, 1, 2, 3} {
			for _, x := range []int{0, 1, 2} {
				lines := flat(3, 10, 16, 22, 28, 34)
				lines[i][x] += d
				inner, most := i > 0 && i < 4, 2
				if inner {
					most = 1
				}
				want := x == 1 || max(d, -d) <= most
				if l := stave.Staves(lines); len(l) == 1 != want {
					t.Errorf("line %d, column %d, by %d: %v", i, x, d, l)
				}
			}
		}
	}
	lines := flat(2, 10, 16, 22, 28, 34)
	lines[0][0], lines[4][1] = 9, 33
	if l := stave.Staves(lines); !sameStaves(l, []api.Stave{{Lines: lines}}) {
		t.Error("gaps of 5 to 7 in both columns", l)
	}
	lines[0][0] = 8
	if l := stave.Staves(lines); len(l) != 0 {
		t.Error("gaps of 5 to 8 in both columns", l)
	}
}

func TestStavesOfDifferentLengths(t *testing.T) {
	for i := range 5 {
		for _, short := range []int{0, 2, 4} {
			lines := flat(3, 10, 16, 22, 28, 34)
			lines[i] = slices.Repeat(lines[i][:1], short)
			if l := stave.Staves(lines); len(l) != 0 {
				t.Errorf("line %d has %d columns: %v", i, short, l)
			}
		}
	}
	if l := stave.Staves(make([][]int, 12)); len(l) != 0 {
		t.Error("lines without columns", l)
	}
	short, long := flat(2, 10, 16, 22, 28, 34), flat(3, 4, 10, 16, 22, 28)
	if l := stave.Staves(slices.Concat(short, long)); !sameStaves(l, []api.Stave{{Lines: short}, {Lines: long}}) {
		t.Error("staves of different lengths", l)
	}
}

func TestStavesByDefinition(t *testing.T) {
	r := rand.New(rand.NewSource(6))
	found := 0
	for range 500 {
		var lines [][]int
		row := 0
		for range r.Intn(20) {
			row += 2 + r.Intn(3)
			if r.Intn(12) == 0 {
				row += r.Intn(9)
			}
			w := 3
			if r.Intn(20) == 0 {
				w = r.Intn(4)
			}
			lines = append(lines, walk(r, 3, 640, row, 8)[:w])
		}
		want := grouped(lines)
		found += len(want)
		if l := stave.Staves(lines); !sameStaves(l, want) {
			t.Errorf("Staves of %v: %v, want %v", lines, l, want)
		}
	}
	if found < 100 {
		t.Error("too few staves", found)
	}
}

func TestStavesMemory(t *testing.T) {
	line := []int{10, 10}
	lines := [][]int{line, {16, 16}, {22, 22}, {28, 28}, {34, 34}}
	l := stave.Staves(lines)
	if len(l) != 1 {
		t.Fatal("Staves", l)
	}
	l[0].Lines[0][0], l[0].Lines[1] = 7, nil
	if line[0] != 10 || lines[1] == nil {
		t.Error("memory is shared", lines)
	}
}

func TestCheck(t *testing.T) {
	g := plain(10, 34, 0)
	if e := stave.Check(g, wide()); e != api.OK {
		t.Error("a stave that fits", e)
	}
	for _, s := range misfits() {
		if e := stave.Check(g, s); e != api.ErrStave {
			t.Errorf("Check of %v: %d", s, e)
		}
	}
	for _, g := range []api.Ink{{}, {W: 3}, {H: 30}, plain(10, 28, 0), plain(9, 34, 0), plain(11, 34, 0)} {
		for _, s := range []api.Stave{{}, {Lines: make([][]int, 5)}, {Lines: flat(3, 0, 1, 2, 3, 4)}, wide()} {
			if e := stave.Check(g, s); e != api.ErrStave {
				t.Errorf("Check of %v in %d by %d: %d", s, g.W, g.H, e)
			}
		}
	}
}

// TestCheckOfCloseLines has staves that fit though Staves would not find them.
func TestCheckOfCloseLines(t *testing.T) {
	for _, x := range []struct {
		g    api.Ink
		s    api.Stave
		want api.Errno
	}{
		{plain(1, 5, 0), api.Stave{Lines: flat(1, 0, 1, 2, 3, 4)}, api.OK},
		{plain(1, 4, 0), api.Stave{Lines: flat(1, 0, 1, 2, 3, 4)}, api.ErrStave},
		{plain(2, 640, 1), api.Stave{Lines: flat(2, 0, 1, 100, 101, 639)}, api.OK},
		{plain(2, 9, 1), api.Stave{Lines: [][]int{{0, 1}, {2, 2}, {3, 4}, {6, 5}, {7, 8}}}, api.OK},
		{plain(2, 9, 1), api.Stave{Lines: [][]int{{0, 1}, {1, 1}, {3, 4}, {6, 5}, {7, 8}}}, api.ErrStave},
		{plain(2, 9, 1), api.Stave{Lines: [][]int{{0, 1}, {2, 2}, {3, 4}, {6, 5}, {7, 9}}}, api.ErrStave},
	} {
		if e := stave.Check(x.g, x.s); e != x.want {
			t.Errorf("Check of %v in %d by %d: %d, want %d", x.s, x.g.W, x.g.H, e, x.want)
		}
	}
}

// TestPage goes through all of it: lines are traced on a page of two staves that rise and fall, grouped, removed and made straight.
func TestPage(t *testing.T) {
	g, bare := plain(160, 90, 0), plain(160, 90, 0)
	var want []api.Stave
	for _, top := range []int{12, 54} {
		s := api.Stave{Lines: flat(160, top, top+6, top+12, top+18, top+24)}
		for _, l := range s.Lines {
			for x := range l {
				l[x] += x/40 - x/80
			}
		}
		draw(g, s.Lines)
		want = append(want, s)
	}
	for y := 20; y < 64; y++ {
		g.Pix[y*160+30], bare.Pix[y*160+30] = 1, 1
	}
	lines, e := stave.Trace(g)
	staves := stave.Staves(lines)
	if e != api.OK || !sameStaves(staves, want) {
		t.Fatal("staves", staves, e)
	}
	if out := must(t)(stave.Remove(g, staves, 1)); !same(out, bare) {
		t.Errorf("Remove: %q", show(out))
	}
	for i, s := range staves {
		if e := stave.Check(g, s); e != api.OK {
			t.Error("Check", e)
		}
		strip := must(t)(stave.Rectify(g, s, 24, 0))
		straight := ruled(160, 25, 0, 6, 12, 18, 24)
		for y := range 25 {
			straight.Pix[y*160+30] |= bare.Pix[(s.Lines[0][0]+y)*160+30]
		}
		if !same(strip, straight) {
			t.Errorf("Rectify of stave %d: %q", i, show(strip))
		}
	}
}
