package font_test

import (
	"math"
	"math/big"
	"math/rand"
	"slices"
	"strings"
	"testing"

	"custos/api"
	"custos/font"
)

// linedOf is Lined by its definition.
func linedOf(k api.Ink, lines []int) api.Ink {
	out := twin(k)
	for _, y := range lines {
		for x := range k.W {
			if y >= 0 && y < k.H {
				out.Pix[y*k.W+x] = 1
			}
		}
	}
	return out
}

// dressOf is Dress by its definition.
func dressOf(k api.Ink, lines []int) api.Ink {
	lined := linedOf(k, lines)
	out := twin(lined)
	for y := range k.H {
		for x := range k.W {
			if slices.Contains(lines, y) && !has(lined, x, y-1) && !has(lined, x, y+1) {
				out.Pix[y*k.W+x] = 0
			}
		}
	}
	return out
}

// within reports whether a number is one of n numbers from another one on, which may be any numbers.
func within(i, from, n int) bool {
	end := new(big.Int).Add(big.NewInt(int64(from)), big.NewInt(int64(n)))
	return i >= from && big.NewInt(int64(i)).Cmp(end) < 0
}

// pixelsOf is Pixels by its definition.
func pixelsOf(k api.Ink, r api.Rect) []api.Point {
	var l []api.Point
	for y := range k.H {
		for x := range k.W {
			if has(k, x, y) && within(x, r.X, r.W) && within(y, r.Y, r.H) {
				l = append(l, api.Point{X: x, Y: y})
			}
		}
	}
	return l
}

// edges has places and lengths about the edges of an image with a side of 4, and extreme ones.
func edges() []int {
	return append([]int{-5, -4, -3, -1, 0, 1, 3, 4, 5, 8, 640}, extremes...)
}

func TestRight(t *testing.T) {
	for _, k := range append(empties(), plain(1, 1, 0), plain(1, 1, 1), plain(640, 640, 1), plain(640, 1, 0), plain(1, 640, 0), read("#.# .#.")) {
		if !font.Right(k) {
			t.Error("not valid:", k.W, k.H)
		}
	}
	k := plain(640, 640, 1)
	k.Pix[len(k.Pix)-1] = 2
	if font.Right(k) {
		t.Error("the last pixel is wrong")
	}
}

func TestDressExamples(t *testing.T) {
	for _, x := range []struct {
		value int
		want  string
	}{{1, ".#.# #### #### #### .#.#"}, {2, "#... #... #.#. #.#. ##.."}} {
		if k := font.Dress(glyph(t, font.Accs, x.value), []int{2}); !same(k, read(x.want)) {
			t.Errorf("accidental %d:\n%s", x.value, text(k))
		}
	}
}

func TestLines(t *testing.T) {
	for _, x := range []struct {
		image          string
		lines          []int
		lined, dressed string
	}{
		{"... .#. ...", nil, "... .#. ...", "... .#. ..."},
		{"... .#. ...", []int{}, "... .#. ...", "... .#. ..."},
		// ink of the image itself is removed, too
		{"... .#. ...", []int{1}, "... ### ...", "... ... ..."},
		// what is above or below the image is paper
		{"... .#. ...", []int{0}, "### .#. ...", ".#. .#. ..."},
		{"... .#. ...", []int{2}, "... .#. ###", "... .#. .#."},
		{"... ... ...", []int{0, 2}, "### ... ###", "... ... ..."},
		{"###", []int{0}, "###", "..."},
		{"...", []int{0, 0}, "###", "..."},
		// lines beside each other stay
		{"... ... ...", []int{1, 0}, "### ### ...", "### ### ..."},
		{"... ... ...", []int{2, 0, 1, 2}, "### ### ###", "### ### ###"},
		// what crosses a line, or begins or ends at it
		{".#. .#. .#.", []int{1}, ".#. ### .#.", ".#. .#. .#."},
		{"#.. ... ..#", []int{1}, "#.. ### ..#", "#.. #.# ..#"},
		// rows outside the image do not matter, not even beside it
		{"#.. ... ..#", []int{-1, 3}, "#.. ... ..#", "#.. ... ..#"},
		{"#.. ... ..#", []int{-1, 0, 2, 3}, "### ... ###", "... ... ..."},
		{"#.. ... ..#", extremes, "#.. ... ..#", "#.. ... ..#"},
	} {
		k := read(x.image)
		if l := font.Lined(k, x.lines); !same(l, read(x.lined)) {
			t.Errorf("%s with %v:\n%s", x.image, x.lines, text(l))
		}
		if l := font.Dress(k, x.lines); !same(l, read(x.dressed)) {
			t.Errorf("%s dressed with %v:\n%s", x.image, x.lines, text(l))
		}
	}
}

func TestLinesByDefinition(t *testing.T) {
	r := rand.New(rand.NewSource(1))
	for range 2000 {
		k := scattered(r, r.Intn(8), r.Intn(12), r.Intn(8))
		lines := someLines(r, k.H)
		was, wanted := twin(k), slices.Clone(lines)
		if l, want := font.Lined(k, lines), linedOf(k, lines); !same(l, want) {
			t.Errorf("with %v:\n%swant\n%s", lines, text(l), text(want))
		}
		if l, want := font.Dress(k, lines), dressOf(k, lines); !same(l, want) {
			t.Errorf("dressed with %v:\n%swant\n%s", lines, text(l), text(want))
		}
		if !same(k, was) || !slices.Equal(lines, wanted) {
			t.Fatal("an argument was changed")
		}
	}
}

func TestLinesOfLargeImages(t *testing.T) {
	r := rand.New(rand.NewSource(2))
	lines := []int{0, 1, 100, 102, 638, 639, 640}
	for _, k := range []api.Ink{scattered(r, 640, 640, 5), plain(640, 640, 0), plain(640, 640, 1)} {
		if !same(font.Lined(k, lines), linedOf(k, lines)) || !same(font.Dress(k, lines), dressOf(k, lines)) {
			t.Error("a large image")
		}
	}
}

func TestImagesAreNew(t *testing.T) {
	k := read("#.# .#. ###")
	was := twin(k)
	for i, out := range []api.Ink{font.Lined(k, nil), font.Dress(k, nil), font.Window(k, api.Rect{W: 3, H: 3})} {
		if !same(out, was) {
			t.Error(i, "is not the image itself")
		}
		invert(out)
		if !same(k, was) {
			t.Fatal(i, "shares memory with the image")
		}
	}
}

func TestImagesWithoutPixels(t *testing.T) {
	for _, k := range empties() {
		if !same(font.Lined(k, []int{0, 1}), k) || !same(font.Dress(k, []int{0, 1}), k) || !same(font.Window(k, api.Rect{W: k.W, H: k.H}), k) {
			t.Error("not the same:", k.W, k.H)
		}
		if !same(font.Window(k, api.Rect{X: -1, Y: -1, W: 3, H: 4}), plain(3, 4, 0)) {
			t.Error("a window that has not paper alone", k.W, k.H)
		}
		if len(font.Pixels(k, api.Rect{X: -9, Y: -9, W: 1000, H: 1000})) != 0 {
			t.Error("pixels where there are none", k.W, k.H)
		}
	}
}

func TestWindow(t *testing.T) {
	k := read("#..# .##. #.##")
	for _, x := range []struct {
		r    api.Rect
		want string
	}{
		{api.Rect{X: 0, Y: 0, W: 4, H: 3}, "#..# .##. #.##"},
		{api.Rect{X: 1, Y: 1, W: 2, H: 2}, "## .#"},
		{api.Rect{X: 3, Y: 0, W: 1, H: 1}, "#"},
		{api.Rect{X: -1, Y: -1, W: 6, H: 5}, "...... .#..#. ..##.. .#.##. ......"},
		{api.Rect{X: 2, Y: 1, W: 4, H: 1}, "#..."},
		{api.Rect{X: 2, Y: -2, W: 3, H: 3}, "... ... .#."},
		{api.Rect{X: 4, Y: 0, W: 2, H: 1}, ".."},
		{api.Rect{X: 0, Y: 3, W: 2, H: 1}, ".."},
	} {
		if w := font.Window(k, x.r); !same(w, read(x.want)) {
			t.Errorf("window %v:\n%s", x.r, text(w))
		}
	}
}

func TestWindowSizes(t *testing.T) {
	k := read("#..# .##. #.##")
	for _, side := range edges() {
		for _, r := range []api.Rect{{W: side, H: 1}, {W: 1, H: side}, {X: 9, Y: -9, W: side, H: side}} {
			w := font.Window(k, r)
			if proper := side >= 0 && side <= 640; proper && (!font.Right(w) || w.W != r.W || w.H != r.H) || !proper && !zero(w) {
				t.Errorf("window %v: %d by %d", r, w.W, w.H)
			}
		}
	}
	if w := font.Window(k, api.Rect{W: 641}); !zero(w) {
		t.Error("a window that is too wide, without rows")
	}
	if w := font.Window(k, api.Rect{X: 1, Y: 1, W: 2}); w.W != 2 || w.H != 0 {
		t.Error("a window without rows")
	}
	if w := font.Window(k, api.Rect{X: -300, Y: -400, W: 640, H: 640}); len(font.Pixels(w, api.Rect{W: 640, H: 640})) != 7 || !has(w, 300, 400) || !has(w, 303, 402) {
		t.Error("a large window")
	}
}

// TestWindowPlaces has places from which coordinates overflow.
func TestWindowPlaces(t *testing.T) {
	k := plain(640, 640, 1)
	for _, far := range extremes {
		for _, r := range []api.Rect{{X: far, W: 640, H: 2}, {Y: far, W: 2, H: 640}, {X: far, Y: far, W: 640, H: 640}} {
			if w := font.Window(k, r); !same(w, plain(r.W, r.H, 0)) {
				t.Errorf("window %v is not paper", r)
			}
		}
	}
	r := rand.New(rand.NewSource(3))
	for range 1000 {
		k := scattered(r, r.Intn(7), r.Intn(7), 5)
		part := api.Rect{X: r.Intn(19) - 9, Y: r.Intn(19) - 9, W: r.Intn(9), H: r.Intn(9)}
		want := plain(part.W, part.H, 0)
		for i := range want.Pix {
			if has(k, part.X+i%part.W, part.Y+i/part.W) {
				want.Pix[i] = 1
			}
		}
		if w := font.Window(k, part); !same(w, want) {
			t.Errorf("window %v of\n%sis\n%s", part, text(k), text(w))
		}
	}
}

func TestPixels(t *testing.T) {
	k := read("#.#. .#.. #.#.")
	for _, x := range []struct {
		r    api.Rect
		want []api.Point
	}{
		{api.Rect{X: 1, Y: 0, W: 9, H: 2}, []api.Point{{X: 2, Y: 0}, {X: 1, Y: 1}}},
		{api.Rect{X: 0, Y: 0, W: 4, H: 3}, []api.Point{{X: 0, Y: 0}, {X: 2, Y: 0}, {X: 1, Y: 1}, {X: 0, Y: 2}, {X: 2, Y: 2}}},
		{api.Rect{X: -3, Y: -2, W: 4, H: 3}, []api.Point{{X: 0, Y: 0}}},
		{api.Rect{X: 2, Y: 2, W: 1, H: 1}, []api.Point{{X: 2, Y: 2}}},
		{api.Rect{X: 3, Y: 0, W: 1, H: 3}, nil},
		{api.Rect{X: 0, Y: 0, W: 0, H: 3}, nil},
		{api.Rect{X: 0, Y: 0, W: 4, H: 0}, nil},
		{api.Rect{X: 3, Y: 0, W: -4, H: 3}, nil},
		{api.Rect{X: 0, Y: 2, W: 4, H: -3}, nil},
		{api.Rect{X: -3, Y: 0, W: 3, H: 3}, nil},
		{api.Rect{X: 1, Y: 1, W: math.MaxInt, H: math.MaxInt}, []api.Point{{X: 1, Y: 1}, {X: 2, Y: 2}}},
		{api.Rect{X: math.MinInt, Y: math.MinInt, W: math.MaxInt, H: math.MaxInt}, nil},
		{api.Rect{X: 1 - math.MaxInt, Y: 2 - math.MaxInt, W: math.MaxInt, H: math.MaxInt}, []api.Point{{X: 0, Y: 0}}},
	} {
		if l := font.Pixels(k, x.r); !slices.Equal(l, x.want) {
			t.Errorf("pixels of %v: %v", x.r, l)
		}
	}
}

func TestPixelsByDefinition(t *testing.T) {
	r := rand.New(rand.NewSource(4))
	k := scattered(r, 4, 4, 6)
	for _, from := range edges() {
		for _, n := range edges() {
			for _, part := range []api.Rect{{X: from, W: n, H: 4}, {Y: from, W: 4, H: n}, {X: from, Y: from, W: n, H: n}} {
				if l, want := font.Pixels(k, part), pixelsOf(k, part); !slices.Equal(l, want) {
					t.Errorf("pixels of %v: %v, want %v", part, l, want)
				}
			}
		}
	}
	for range 1000 {
		k := scattered(r, r.Intn(7), r.Intn(7), 5)
		part := api.Rect{X: r.Intn(19) - 9, Y: r.Intn(19) - 9, W: r.Intn(19) - 4, H: r.Intn(19) - 4}
		if l, want := font.Pixels(k, part), pixelsOf(k, part); !slices.Equal(l, want) {
			t.Errorf("pixels of %v: %v, want %v", part, l, want)
		}
	}
	if n := len(font.Pixels(plain(640, 640, 1), api.Rect{W: 640, H: 640})); n != 640*640 {
		t.Error("pixels of a large image:", n)
	}
}

func TestShow(t *testing.T) {
	for _, x := range []struct {
		k    api.Ink
		want string
	}{
		{read("#.# .#."), "#.#\n.#.\n"},
		{plain(1, 1, 0), ".\n"},
		{api.Ink{}, ""},
		{api.Ink{W: 5}, ""},
		{api.Ink{H: 3}, "\n\n\n"},
		{plain(640, 640, 1), strings.Repeat(strings.Repeat("#", 640)+"\n", 640)},
	} {
		if s := font.Show(x.k); s != x.want {
			t.Errorf("shown as %.100q", s)
		}
	}
}
