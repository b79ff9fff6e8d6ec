package stave_test

import (
	"bytes"
	"math"
	"math/rand"
	"slices"
	"testing"

	"custos/api"
	"custos/image"
	"custos/stave"
)

// extremes has numbers that no side of an image may reach.
var extremes = []int{math.MinInt, math.MinInt + 1, -641, 641, math.MaxInt - 1, math.MaxInt}

// read returns the image of a text.
func read(t *testing.T, text string) api.Ink {
	t.Helper()
	g, i, e := image.Parse(text)
	if e != api.OK {
		t.Fatalf("Parse(%q): line %d, error %d", text, i, e)
	}
	return g
}

// show returns the text of an image.
func show(g api.Ink) string {
	s, e := image.Format(g)
	if e != api.OK {
		return "no image"
	}
	return s
}

// must returns an image that a call returned without an error.
func must(t *testing.T) func(g api.Ink, e api.Errno) api.Ink {
	return func(g api.Ink, e api.Errno) api.Ink {
		t.Helper()
		if e != api.OK {
			t.Fatalf("error %d", e)
		}
		return g
	}
}

// same compares two images.
func same(a, b api.Ink) bool {
	return a.W == b.W && a.H == b.H && bytes.Equal(a.Pix, b.Pix)
}

// zero reports whether an image is the zero image.
func zero(g api.Ink) bool {
	return g.W == 0 && g.H == 0 && len(g.Pix) == 0
}

// sameLines compares two lists of lines.
func sameLines(a, b [][]int) bool {
	return slices.EqualFunc(a, b, slices.Equal[[]int])
}

// sameStaves compares two lists of staves.
func sameStaves(a, b []api.Stave) bool {
	return slices.EqualFunc(a, b, func(s, t api.Stave) bool { return sameLines(s.Lines, t.Lines) })
}

// plain returns an image of paper, or of ink.
func plain(w, h int, pixel byte) api.Ink {
	return api.Ink{W: w, H: h, Pix: bytes.Repeat([]byte{pixel}, w*h)}
}

// scattered returns an image of given sides of which so many tenths are ink.
func scattered(r *rand.Rand, w, h, tenths int) api.Ink {
	g := plain(w, h, 0)
	for i := range g.Pix {
		if r.Intn(10) < tenths {
			g.Pix[i] = 1
		}
	}
	return g
}

// flat returns straight lines of w columns.
func flat(w int, rows ...int) [][]int {
	var l [][]int
	for _, y := range rows {
		l = append(l, slices.Repeat([]int{y}, w))
	}
	return l
}

// walk returns a random path that changes its row in about one of so many columns, or a constant one if it is 0.
func walk(r *rand.Rand, w, h, first, seldom int) []int {
	path := []int{first}
	for len(path) < w {
		if seldom > 0 && r.Intn(seldom) == 0 {
			first = min(max(first+r.Intn(3)-1, 0), h-1)
		}
		path = append(path, first)
	}
	return path
}

// draw makes the pixels of lines ink, in the image itself.
func draw(g api.Ink, lines [][]int) {
	for _, l := range lines {
		for x, y := range l {
			g.Pix[y*g.W+x] = 1
		}
	}
}

// ruled returns an image with straight lines.
func ruled(w, h int, rows ...int) api.Ink {
	g := plain(w, h, 0)
	draw(g, flat(w, rows...))
	return g
}

// randomStave returns a stave that fits an image of given sides, which is at least five rows high: its lines wander, push each other, and reach the edges.
func randomStave(r *rand.Rand, w, h int) api.Stave {
	rows := r.Perm(h)[:5]
	slices.Sort(rows)
	s := api.Stave{Lines: make([][]int, 5)}
	for range w {
		least := 0
		for i, row := range rows {
			low, high := max(row-1, least), min(row+1, h-5+i)
			rows[i] = min(max(row, low), high)
			if r.Intn(3) == 0 {
				rows[i] = low + r.Intn(high-low+1)
			}
			s.Lines[i] = append(s.Lines[i], rows[i])
			least = rows[i] + 1
		}
	}
	return s
}

// misfits returns staves that do not fit an image of 10 columns and 34 rows, but for one mistake each.
func misfits() []api.Stave {
	l := []api.Stave{{}, {Lines: flat(10, 4, 10, 16, 22)}, {Lines: flat(10, 4, 10, 16, 22, 28, 33)}, {Lines: flat(9, 4, 10, 16, 22, 28)}, {Lines: flat(11, 4, 10, 16, 22, 28)}, {Lines: flat(10, 4, 10, 10, 22, 28)}, {Lines: flat(10, 10, 4, 16, 22, 28)}, {Lines: make([][]int, 5)}}
	for i := range 5 {
		for _, y := range append(extremes, -1, 34) {
			s := api.Stave{Lines: flat(10, 4, 10, 16, 22, 28)}
			s.Lines[i] = slices.Repeat([]int{y}, 10)
			l = append(l, s)
		}
		for _, x := range []int{0, 4, 9} {
			s := api.Stave{Lines: flat(10, 4, 10, 16, 22, 28)}
			s.Lines[i][x] += 2
			l = append(l, s)
		}
		s := api.Stave{Lines: flat(10, 4, 10, 16, 22, 28)}
		s.Lines[i] = s.Lines[i][:9]
		l = append(l, s)
	}
	touching := api.Stave{Lines: flat(10, 4, 5, 16, 22, 28)}
	touching.Lines[0][5] = 5
	return append(l, touching)
}

// wide is a stave that fits every image of 10 columns and 34 rows.
func wide() api.Stave {
	return api.Stave{Lines: flat(10, 4, 10, 16, 22, 28)}
}

// invalid returns ink images that are not valid.
func invalid() []api.Ink {
	return []api.Ink{
		{W: 641, H: 1, Pix: make([]byte, 641)},
		{W: 1, H: 641, Pix: make([]byte, 641)},
		{W: -1, H: -1, Pix: []byte{1}},
		{W: 2, H: 2, Pix: []byte{1, 1, 1}},
		{W: 2, H: 2, Pix: []byte{1, 1, 1, 1, 1}},
		{W: 1, H: 1},
		{W: 2, H: 2, Pix: []byte{1, 1, 1, 2}},
		{W: 1, H: 1, Pix: []byte{255}},
	}
}

// TestInvalidImages gives images that are not valid to all functions, with other arguments that are wrong, too.
func TestInvalidImages(t *testing.T) {
	none := []api.Stave{{}}
	for _, g := range invalid() {
		want := image.Check(g)
		if n, e := stave.Cost(g, nil); e != want || n != 0 {
			t.Error("Cost", n, e)
		}
		if l, e := stave.Trace(g); e != want || len(l) != 0 {
			t.Error("Trace", l, e)
		}
		if e := stave.Check(g, api.Stave{}); e != want {
			t.Error("Check", e)
		}
		for _, l := range [][]api.Stave{nil, none} {
			if runs, e := stave.Runs(g, l, 1); e != want || len(runs) != 0 {
				t.Error("Runs", runs, e)
			}
			if out, e := stave.Remove(g, l, 1); e != want || !zero(out) {
				t.Error("Remove", e)
			}
		}
		if out, e := stave.Rectify(g, api.Stave{}, -1, -1); e != want || !zero(out) {
			t.Error("Rectify", e)
		}
		if out, e := stave.Restore(g, api.Ink{W: -1}, api.Stave{}, -1); e != want || !zero(out) {
			t.Error("Restore", e)
		}
		if out, e := stave.Restore(plain(10, 34, 0), g, api.Stave{}, -1); e != want || !zero(out) {
			t.Error("Restore of an invalid strip", e)
		}
		if black, white, e := stave.Gauge(g); e != want || black != 0 || white != 0 {
			t.Error("Gauge", black, white, e)
		}
	}
}

// TestConstants checks the constants of the document.
func TestConstants(t *testing.T) {
	if stave.MaxLines != 60 || stave.Apart != 2 {
		t.Error("a constant is wrong")
	}
}
