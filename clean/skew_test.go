package clean_test

import (
	"math"
	"testing"

	"custos/api"
	"custos/clean"
	"custos/image"
)

// inOrder has the skews as they are preferred.
var inOrder = []int{0, 1, -1, 2, -2, 3, -3}

func TestDrop(t *testing.T) {
	for _, x := range []struct{ w, k, x, want int }{
		{172, 2, 171, 5}, {129, 1, 63, 0}, {129, 1, 64, 1}, {129, 1, 128, 2}, {129, -1, 0, 2}, {129, -1, 1, 1}, {129, -1, 64, 1}, {129, -1, 65, 0},
		{64, 1, 63, 0}, {64, -1, 0, 0}, {65, -1, 0, 1}, {22, 3, 21, 0}, {23, 3, 22, 1}, {640, 3, 639, 29}, {640, -3, 0, 29}, {640, -3, 639, 0}, {1, 3, 0, 0}, {640, 0, 639, 0},
	} {
		if n, e := clean.Drop(x.w, x.k, x.x); e != api.OK || n != x.want {
			t.Errorf("Drop(%d, %d, %d): %d, %d, want %d", x.w, x.k, x.x, n, e, x.want)
		}
	}
	for _, w := range []int{1, 2, 64, 65, 100, 640} {
		for _, k := range inOrder {
			for x := range w {
				if n, e := clean.Drop(w, k, x); e != api.OK || n != dropOf(w, k, x) {
					t.Fatalf("Drop(%d, %d, %d): %d, %d, want %d", w, k, x, n, e, dropOf(w, k, x))
				}
			}
		}
	}
}

func TestDropErrors(t *testing.T) {
	for _, x := range [][3]int{
		{0, 0, 0}, {-1, 0, 0}, {641, 0, 0}, {5, 4, 0}, {5, -4, 0}, {5, 0, -1}, {5, 0, 5}, {640, 3, 640},
		{math.MaxInt, 1, math.MaxInt - 1}, {math.MinInt, 1, 0}, {5, math.MaxInt, 4}, {5, math.MinInt, 0}, {5, 1, math.MaxInt}, {5, -1, math.MinInt},
	} {
		if n, e := clean.Drop(x[0], x[1], x[2]); e != api.ErrArg || n != 0 {
			t.Errorf("Drop%v: %d, %d", x, n, e)
		}
	}
}

func TestSkewExamples(t *testing.T) {
	for _, k := range []int{1, -1} {
		g := must(t)(clean.Skew(ruled(129, 1, 0), k))
		if g.H != 3 {
			t.Fatal("rows", g.H)
		}
		for x := range 129 {
			row := x / 64
			if k < 0 {
				row = (128 - x) / 64
			}
			for y := range 3 {
				if image.At(g, x, y) != (y == row) {
					t.Errorf("Skew by %d: column %d, row %d", k, x, y)
				}
			}
		}
		if found, e := clean.FindSkew(g); e != api.OK || found != k {
			t.Errorf("FindSkew: %d, %d, want %d", found, e, k)
		}
	}
	line := ruled(64, 1, 0)
	for _, k := range []int{1, -1} {
		if g := must(t)(clean.Skew(line, k)); !same(g, line) {
			t.Error("Skew of 64 columns", show(g))
		}
	}
	if k, e := clean.FindSkew(must(t)(clean.Skew(line, 1))); e != api.OK || k != 0 {
		t.Error("FindSkew of 64 columns", k, e)
	}
}

func TestSkewByDefinition(t *testing.T) {
	for _, g := range samples() {
		for _, k := range inOrder {
			h := g.H + greatestOf(g.W, k)
			out, e := clean.Skew(g, k)
			if h > 640 {
				if e != api.ErrSize || !zero(out) {
					t.Errorf("Skew of %d by %d by %d: error %d", g.W, g.H, k, e)
				}
				continue
			}
			if e != api.OK || out.W != g.W || out.H != h {
				t.Fatalf("Skew of %d by %d by %d: %d by %d, %d", g.W, g.H, k, out.W, out.H, e)
			}
			for x := range g.W {
				for y := range h {
					before := y - dropOf(g.W, k, x)
					if want := before >= 0 && before < g.H && g.Pix[before*g.W+x] == 1; want != (out.Pix[y*g.W+x] == 1) {
						t.Fatalf("Skew of %d by %d by %d: column %d, row %d", g.W, g.H, k, x, y)
					}
				}
			}
			if back := must(t)(clean.Unskew(out, k)); !same(back, g) {
				t.Errorf("Unskew of Skew of %d by %d by %d", g.W, g.H, k)
			}
		}
	}
}

func TestUnskewByDefinition(t *testing.T) {
	for _, g := range samples() {
		for _, k := range inOrder {
			out, e := clean.Unskew(g, k)
			if g.H < greatestOf(g.W, k) {
				if e != api.ErrSize || !zero(out) {
					t.Errorf("Unskew of %d by %d by %d: error %d", g.W, g.H, k, e)
				}
				continue
			}
			if e != api.OK || !same(out, unskewed(g, k)) {
				t.Errorf("Unskew of %d by %d by %d: %d", g.W, g.H, k, e)
			}
		}
	}
}

func TestSkewErrors(t *testing.T) {
	for _, k := range []int{4, -4, math.MaxInt, math.MinInt} {
		for _, g := range []api.Ink{{}, ruled(640, 640, 0), ruled(640, 1, 0)} {
			if out, e := clean.Skew(g, k); e != api.ErrArg || !zero(out) {
				t.Errorf("Skew by %d: %d", k, e)
			}
			if out, e := clean.Unskew(g, k); e != api.ErrArg || !zero(out) {
				t.Errorf("Unskew by %d: %d", k, e)
			}
		}
	}
	for _, x := range []struct {
		call func(g api.Ink, k int) (api.Ink, api.Errno)
		h    int
		want api.Errno
	}{{clean.Skew, 611, api.OK}, {clean.Skew, 612, api.ErrSize}, {clean.Skew, 0, api.OK}, {clean.Unskew, 29, api.OK}, {clean.Unskew, 28, api.ErrSize}, {clean.Unskew, 0, api.ErrSize}} {
		for _, k := range []int{3, -3} {
			out, e := x.call(paper(640, x.h), k)
			if e != x.want || e != api.OK && !zero(out) {
				t.Errorf("%d rows by %d: %d, want %d", x.h, k, e, x.want)
			}
		}
	}
}

func TestFull(t *testing.T) {
	for text, want := range map[string]int{"0 0\n": 0, "0 2\n\n\n": 0, "3 0\n": 0, "1 3\n#\n.\n#\n": 2, "3 3\n###\n##.\n.##\n": 1, "2 2\n##\n##\n": 2, "2 1\n..\n": 0} {
		if n, e := clean.Full(read(t, text)); e != api.OK || n != want {
			t.Errorf("Full(%q): %d, %d, want %d", text, n, e, want)
		}
	}
	if n, e := clean.Full(paper(0, 640)); e != api.OK || n != 0 {
		t.Error("Full of rows without columns", n, e)
	}
	for _, g := range samples() {
		if n, e := clean.Full(g); e != api.OK || n != fullOf(g) {
			t.Errorf("Full of %d by %d: %d, %d, want %d", g.W, g.H, n, e, fullOf(g))
		}
	}
}

func TestFindSkewByDefinition(t *testing.T) {
	for _, g := range samples() {
		want, most := 0, -1
		for _, k := range inOrder {
			if g.H >= greatestOf(g.W, k) && fullOf(unskewed(g, k)) > most {
				want, most = k, fullOf(unskewed(g, k))
			}
		}
		if k, e := clean.FindSkew(g); e != api.OK || k != want {
			t.Errorf("FindSkew of %d by %d: %d, %d, want %d", g.W, g.H, k, e, want)
		}
	}
}

// below returns an image with the second one below the first one, which is as wide.
func below(t *testing.T, a, b api.Ink) api.Ink {
	t.Helper()
	g := must(t)(image.Paste(paper(a.W, a.H+b.H), a, 0, 0))
	return must(t)(image.Paste(g, b, 0, a.H))
}

// TestFindSkewOfTwo has lines that are skewed in two ways: the one of most lines counts, and then the one that is preferred.
func TestFindSkewOfTwo(t *testing.T) {
	one, two := ruled(200, 10, 5), ruled(200, 10, 2, 7)
	for i, better := range inOrder {
		for _, worse := range inOrder[i+1:] {
			a, b := must(t)(clean.Skew(one, better)), must(t)(clean.Skew(one, worse))
			for _, g := range []api.Ink{below(t, a, b), below(t, b, a)} {
				if k, e := clean.FindSkew(g); e != api.OK || k != better {
					t.Errorf("FindSkew of %d and %d: %d, %d", better, worse, k, e)
				}
			}
			many := must(t)(clean.Skew(two, worse))
			if k, e := clean.FindSkew(below(t, a, many)); e != api.OK || k != worse {
				t.Errorf("FindSkew of one line by %d and two by %d: %d, %d", better, worse, k, e)
			}
		}
	}
}

// TestFindSkewOfLowImages has images that are too low for some skews.
func TestFindSkewOfLowImages(t *testing.T) {
	for _, x := range []struct{ w, h, want int }{{640, 0, 0}, {640, 1, 0}, {0, 0, 0}, {0, 9, 0}, {200, 9, 0}} {
		if k, e := clean.FindSkew(paper(x.w, x.h)); e != api.OK || k != x.want {
			t.Errorf("FindSkew of paper, %d by %d: %d, %d", x.w, x.h, k, e)
		}
	}
	for _, k := range inOrder {
		g := must(t)(clean.Skew(ruled(640, 1, 0), k))
		if found, e := clean.FindSkew(g); e != api.OK || found != k {
			t.Errorf("FindSkew of %d rows: %d, %d, want %d", g.H, found, e, k)
		}
	}
}
