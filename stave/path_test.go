package stave_test

import (
	"bytes"
	"cmp"
	"math/rand"
	"slices"
	"testing"

	"custos/api"
	"custos/image"
	"custos/stave"
)

// costOf is the cost of a path by its definition.
func costOf(g api.Ink, path []int) int {
	n := 0
	for x, y := range path {
		n += 2 - 2*int(g.Pix[y*g.W+x])
	}
	for x := 1; x < len(path); x++ {
		if path[x] != path[x-1] {
			n++
		}
	}
	return n
}

// better reports whether a path is cheaper than another one, or as cheap and before it. There may be no other one.
func better(g api.Ink, a, b []int) bool {
	return b == nil || cmp.Or(cmp.Compare(costOf(g, a), costOf(g, b)), slices.Compare(a, b)) < 0
}

// ofAll returns the cheapest path of which nothing is forbidden, or nil: all paths are gone through.
func ofAll(g api.Ink, forbidden []bool) []int {
	var best []int
	var extend func(path []int)
	extend = func(path []int) {
		if len(path) == g.W {
			if better(g, path, best) {
				best = slices.Clone(path)
			}
			return
		}
		for y := range g.H {
			if n := len(path); !forbidden[y*g.W+n] && (n == 0 || max(y-path[n-1], path[n-1]-y) <= 1) {
				extend(append(path, y))
			}
		}
	}
	extend(nil)
	return best
}

// ofEnds returns the same, but compares only paths that begin in one pixel with each other: it is quicker.
func ofEnds(g api.Ink, forbidden []bool) []int {
	ends := make([][]int, g.H)
	for x := g.W - 1; x >= 0; x-- {
		part, _ := image.Crop(g, api.Rect{X: x, W: g.W - x, H: g.H})
		longer := make([][]int, g.H)
		for y := range g.H {
			if forbidden[y*g.W+x] {
				continue
			}
			if x == g.W-1 {
				longer[y] = []int{y}
				continue
			}
			for v := max(y-1, 0); v <= min(y+1, g.H-1); v++ {
				if ends[v] == nil {
					continue
				}
				if path := append([]int{y}, ends[v]...); better(part, path, longer[y]) {
					longer[y] = path
				}
			}
		}
		ends = longer
	}
	var best []int
	for _, path := range ends {
		if path != nil && better(g, path, best) {
			best = path
		}
	}
	return best
}

// traced is Trace by its definition.
func traced(g api.Ink, cheapest func(g api.Ink, forbidden []bool) []int) [][]int {
	if g.W == 0 || g.H == 0 {
		return nil
	}
	var l [][]int
	forbidden := make([]bool, g.W*g.H)
	for len(l) < 60 {
		path := cheapest(g, forbidden)
		if path == nil || 8*costOf(g, path) > g.W {
			break
		}
		l = append(l, path)
		for i := range forbidden {
			y := i / g.W
			forbidden[i] = forbidden[i] || max(y-path[i%g.W], path[i%g.W]-y) <= 2
		}
	}
	slices.SortFunc(l, func(a, b []int) int { return a[0] - b[0] })
	return l
}

// wavy returns an image with lines that wander, with holes and with specks.
func wavy(r *rand.Rand, w, h int) api.Ink {
	g := plain(w, h, 0)
	seldom := 3 + r.Intn(40)
	for y := r.Intn(4); y < h; y += 1 + r.Intn(7) {
		draw(g, [][]int{walk(r, w, h, y, seldom)})
	}
	flips := w * h / (5 + r.Intn(100))
	for range flips {
		g.Pix[r.Intn(w*h)] ^= 1
	}
	return g
}

func TestCost(t *testing.T) {
	g := read(t, "4 3\n#..#\n.##.\n....\n")
	for _, x := range []struct {
		path []int
		want int
	}{{[]int{0, 1, 1, 0}, 2}, {[]int{0, 0, 0, 0}, 4}, {[]int{1, 1, 1, 1}, 4}, {[]int{2, 2, 2, 2}, 8}, {[]int{0, 1, 2, 1}, 7}, {[]int{1, 2, 1, 2}, 9}} {
		if n, e := stave.Cost(g, x.path); e != api.OK || n != x.want {
			t.Errorf("Cost of %v: %d, %d, want %d", x.path, n, e, x.want)
		}
	}
	for _, path := range [][]int{nil, {}, {0}, {0, 0, 0}, {0, 0, 0, 0, 0}, {0, 0, 2, 2}, {2, 0, 0, 0}, {0, 0, 0, 2}, {-1, 0, 0, 0}, {0, 0, 0, -1}, {2, 2, 2, 3}, {3, 3, 3, 3}, {-1, -1, -1, -1}} {
		if n, e := stave.Cost(g, path); e != api.ErrArg || n != 0 {
			t.Errorf("Cost of %v: %d, %d", path, n, e)
		}
	}
	for _, y := range extremes {
		for _, path := range [][]int{{y, y, y, y}, {0, 0, 0, y}, {y, 0, 0, 0}, {0, y, -y, 0}} {
			if n, e := stave.Cost(g, path); e != api.ErrArg || n != 0 {
				t.Errorf("Cost of %v: %d, %d", path, n, e)
			}
		}
	}
}

func TestCostWithoutPixels(t *testing.T) {
	for _, g := range []api.Ink{{}, {W: 3}, {H: 3}} {
		for _, path := range [][]int{nil, {}, {0}, {0, 0, 0}} {
			if n, e := stave.Cost(g, path); e != api.ErrArg || n != 0 {
				t.Errorf("Cost of %v in %d by %d: %d, %d", path, g.W, g.H, n, e)
			}
		}
	}
	if n, e := stave.Cost(plain(1, 1, 1), []int{0}); e != api.OK || n != 0 {
		t.Error("Cost in one pixel", n, e)
	}
}

func TestCostByDefinition(t *testing.T) {
	r := rand.New(rand.NewSource(1))
	for range 300 {
		g := scattered(r, 1+r.Intn(30), 1+r.Intn(9), r.Intn(11))
		path := walk(r, g.W, g.H, r.Intn(g.H), 2)
		if n, e := stave.Cost(g, path); e != api.OK || n != costOf(g, path) {
			t.Errorf("Cost of %v in %q: %d, %d, want %d", path, show(g), n, e, costOf(g, path))
		}
	}
	long := walk(r, 640, 2, 0, 1)
	for x := range long {
		long[x] = x % 2
	}
	if n, e := stave.Cost(plain(640, 640, 0), long); e != api.OK || n != 3*640-1 {
		t.Error("Cost of the dearest path", n, e)
	}
}

func TestTraceExamples(t *testing.T) {
	line := slices.Repeat([]int{2}, 16)
	bent := slices.Clone(line)
	bent[7] = 1
	for _, x := range []struct {
		above, on, below string
		want             [][]int
	}{
		{"................", "#######.########", "................", [][]int{line}},
		{"................", "#######.#.######", "................", nil},
		{".......#........", "#######.########", "................", [][]int{bent}},
		{"................", "#######.########", ".......#........", [][]int{line}},
		{".......#........", "#######.########", ".......#........", [][]int{bent}},
		{"................", "################", "................", [][]int{line}},
		{"................", ".###############", "................", [][]int{line}},
		{"................", "###############.", "................", [][]int{line}},
	} {
		g := read(t, "16 5\n................\n"+x.above+"\n"+x.on+"\n"+x.below+"\n................\n")
		if l, e := stave.Trace(g); e != api.OK || !sameLines(l, x.want) {
			t.Errorf("Trace of %q: %v, %d, want %v", show(g), l, e, x.want)
		}
	}
}

// TestTraceCosts has lines that cost just an eighth of the number of columns, and such that cost more.
func TestTraceCosts(t *testing.T) {
	for _, x := range []struct{ w, holes, changes, want int }{
		{1, 0, 0, 1}, {7, 0, 0, 1}, {7, 0, 1, 0}, {8, 0, 1, 1}, {8, 1, 0, 0}, {15, 1, 0, 0}, {16, 1, 0, 1}, {15, 0, 2, 0}, {16, 0, 2, 1}, {23, 1, 1, 0}, {24, 1, 1, 1}, {31, 2, 0, 0}, {32, 2, 0, 1}, {639, 39, 2, 0}, {640, 39, 2, 1}, {640, 40, 0, 1}, {640, 40, 1, 0},
	} {
		g := plain(x.w, 20, 0)
		y := 9
		for c := range x.w {
			if c >= x.w-x.changes {
				y++
			}
			if c == 0 || c > x.holes {
				g.Pix[y*x.w+c] = 1
			}
		}
		if l, e := stave.Trace(g); e != api.OK || len(l) != x.want {
			t.Errorf("%d columns, %d holes, %d changes: %d lines, %d", x.w, x.holes, x.changes, len(l), e)
		}
	}
}

// TestTraceFirstOfSeveral has images in which many paths cost the same.
func TestTraceFirstOfSeveral(t *testing.T) {
	for _, x := range []struct {
		text string
		want [][]int
	}{
		{"8 2\n####....\n....####\n", [][]int{{0, 0, 0, 0, 1, 1, 1, 1}}},
		{"8 2\n######..\n..######\n", [][]int{{0, 0, 0, 0, 0, 0, 1, 1}}},
		{"8 2\n..######\n######..\n", [][]int{{1, 1, 0, 0, 0, 0, 0, 0}}},
		{"8 3\n....####\n####....\n....####\n", [][]int{{1, 1, 1, 1, 0, 0, 0, 0}}},
		{"8 3\n####....\n....####\n####....\n", [][]int{{0, 0, 0, 0, 1, 1, 1, 1}}},
		{"16 3\n################\n................\n################\n", flat(16, 0)},
		{"16 4\n################\n................\n................\n################\n", flat(16, 0, 3)},
		{"3 1\n###\n", flat(3, 0)},
		{"3 1\n##.\n", nil},
		{"1 7\n.\n#\n#\n#\n#\n#\n#\n", flat(1, 1, 4)},
	} {
		if l, e := stave.Trace(read(t, x.text)); e != api.OK || !sameLines(l, x.want) {
			t.Errorf("Trace of %q: %v, %d, want %v", x.text, l, e, x.want)
		}
	}
}

func TestTraceOfAllPaths(t *testing.T) {
	r := rand.New(rand.NewSource(2))
	for range 250 {
		g := scattered(r, 8+r.Intn(2), 1+r.Intn(4), 5+r.Intn(5))
		want := traced(g, ofAll)
		if l, e := stave.Trace(g); e != api.OK || !sameLines(l, want) {
			t.Errorf("Trace of %q: %v, %d, want %v", show(g), l, e, want)
		}
		if quick := traced(g, ofEnds); !sameLines(quick, want) {
			t.Errorf("the tests differ: %v, %v", quick, want)
		}
	}
}

func TestTraceByDefinition(t *testing.T) {
	r := rand.New(rand.NewSource(3))
	found := 0
	for range 150 {
		g := wavy(r, 1+r.Intn(90), 1+r.Intn(30))
		want := traced(g, ofEnds)
		found += len(want)
		if l, e := stave.Trace(g); e != api.OK || !sameLines(l, want) {
			t.Errorf("Trace of %q: %v, %d, want %v", show(g), l, e, want)
		}
	}
	if found < 200 {
		t.Error("too few lines", found)
	}
}

// TestMostLines has more lines than may be found: those that cost least are found.
func TestMostLines(t *testing.T) {
	var rows []int
	for i := range 60 {
		rows = append(rows, 3*i)
	}
	if l, e := stave.Trace(plain(640, 640, 1)); e != api.OK || !sameLines(l, flat(640, rows...)) {
		t.Error("lines of ink", len(l), e)
	}
	if l, e := stave.Trace(plain(1, 640, 1)); e != api.OK || !sameLines(l, flat(1, rows...)) {
		t.Error("lines of one column", len(l), e)
	}
	for i := range rows {
		rows[i] = 5 + 7*i
	}
	g := ruled(20, 640, append(rows, 430, 437, 444)...)
	if l, e := stave.Trace(g); e != api.OK || !sameLines(l, flat(20, rows...)) {
		t.Error("63 lines", len(l), e)
	}
	for _, y := range []int{5, 12, 250} {
		g.Pix[y*20+3] = 0
	}
	rest := slices.DeleteFunc(append(rows, 430, 437, 444), func(y int) bool { return y == 5 || y == 12 || y == 250 })
	if l, e := stave.Trace(g); e != api.OK || !sameLines(l, flat(20, rest...)) {
		t.Error("63 lines, three of them with holes", len(l), e)
	}
}

// TestTraceOrder has lines that are not found from top to bottom.
func TestTraceOrder(t *testing.T) {
	g := ruled(48, 30, 3, 10, 17, 24)
	for i, y := range []int{3, 10, 17} {
		for x := range 3 - i {
			g.Pix[y*48+10+x] = 0
		}
	}
	if l, e := stave.Trace(g); e != api.OK || !sameLines(l, flat(48, 3, 10, 17, 24)) {
		t.Error("four lines", l, e)
	}
	g.Pix[3*48+20] = 0
	if l, e := stave.Trace(g); e != api.OK || !sameLines(l, flat(48, 10, 17, 24)) {
		t.Error("a line with four holes", l, e)
	}
}

func TestTraceWithoutLines(t *testing.T) {
	for _, g := range []api.Ink{{}, {W: 640}, {H: 640}, plain(1, 1, 0), plain(640, 640, 0), plain(9, 5, 0)} {
		if l, e := stave.Trace(g); e != api.OK || len(l) != 0 {
			t.Errorf("Trace of paper, %d by %d: %v, %d", g.W, g.H, l, e)
		}
	}
}

func TestTraceMemory(t *testing.T) {
	g := plain(9, 7, 1)
	l, e := stave.Trace(g)
	if e != api.OK || len(l) != 3 {
		t.Fatal("Trace", l, e)
	}
	_ = append(l[0], 7)
	for x := range l[0] {
		l[0][x] = 9
	}
	if !sameLines(l[1:], flat(9, 3, 6)) || bytes.Count(g.Pix, []byte{1}) != 63 {
		t.Error("memory is shared", l)
	}
}

// TestLinesAreApart checks what follows for the lines of an image.
func TestLinesAreApart(t *testing.T) {
	r := rand.New(rand.NewSource(4))
	for range 60 {
		g := wavy(r, 20+r.Intn(120), 1+r.Intn(60))
		l, e := stave.Trace(g)
		if e != api.OK {
			t.Fatal("error", e)
		}
		least := -1
		for i, line := range l {
			n, e := stave.Cost(g, line)
			if e != api.OK || 8*n > g.W {
				t.Errorf("a line of %d columns costs %d, %d", g.W, n, e)
			}
			if least < 0 || n < least {
				least = n
			}
			for x := range line {
				if i > 0 && line[x] < l[i-1][x]+3 {
					t.Errorf("lines %v and %v", l[i-1], line)
				}
			}
		}
		best := costOf(g, ofEnds(g, make([]bool, len(g.Pix))))
		if len(l) > 0 && best != least || len(l) == 0 && 8*best <= g.W {
			t.Errorf("%d lines, the cheapest for %d, but a path costs %d", len(l), least, best)
		}
	}
}

// framed returns an image with rows of paper above and below.
func framed(t *testing.T, g api.Ink, above, below int) api.Ink {
	t.Helper()
	return must(t)(image.Paste(plain(g.W, above+g.H+below, 0), g, 0, above))
}

// TestRowsOfPaper adds rows of paper to images whose upper and lower rows are paper.
func TestRowsOfPaper(t *testing.T) {
	r := rand.New(rand.NewSource(5))
	found := 0
	for range 80 {
		inner := wavy(r, 1+r.Intn(120), 1+r.Intn(25))
		edge := (inner.W + 15) / 16
		g := framed(t, inner, edge, edge)
		l, e := stave.Trace(g)
		if e != api.OK {
			t.Fatal("error", e)
		}
		found += len(l)
		above, below := r.Intn(40), r.Intn(40)
		more, e := stave.Trace(framed(t, g, above, below))
		for _, line := range l {
			for x := range line {
				line[x] += above
			}
		}
		if e != api.OK || !sameLines(more, l) {
			t.Errorf("%q with %d and %d rows: %v, %d, want %v", show(g), above, below, more, e, l)
		}
	}
	if found < 50 {
		t.Error("too few lines", found)
	}
}
