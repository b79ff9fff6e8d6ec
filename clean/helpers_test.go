package clean_test

import (
	"bytes"
	"math/rand"
	"testing"

	"custos/api"
	"custos/clean"
	"custos/image"
)

// read returns the image of a text.
func read(t *testing.T, text string) api.Ink {
	t.Helper()
	g, i, e := image.Parse(text)
	if e != api.OK {
		t.Fatalf("Parse(%q): line %d, error %d", text, i, e)
	}
	return g
}

// show returns the text of an image.
func show(g api.Ink) string {
	s, e := image.Format(g)
	if e != api.OK {
		return "no image"
	}
	return s
}

// must returns an image that a call returned without an error.
func must(t *testing.T) func(g api.Ink, e api.Errno) api.Ink {
	return func(g api.Ink, e api.Errno) api.Ink {
		t.Helper()
		if e != api.OK {
			t.Fatalf("error %d", e)
		}
		return g
	}
}

// same compares two images.
func same(a, b api.Ink) bool {
	return a.W == b.W && a.H == b.H && bytes.Equal(a.Pix, b.Pix)
}

// zero reports whether an image is the zero image.
func zero(g api.Ink) bool {
	return g.W == 0 && g.H == 0 && len(g.Pix) == 0
}

// paper returns an image of paper.
func paper(w, h int) api.Ink {
	return api.Ink{W: w, H: h, Pix: make([]byte, w*h)}
}

// ruled returns an image with some full rows.
func ruled(w, h int, rows ...int) api.Ink {
	g := paper(w, h)
	for _, y := range rows {
		for x := range w {
			g.Pix[y*w+x] = 1
		}
	}
	return g
}

// scattered returns an image of given sides of which so many tenths are ink.
func scattered(r *rand.Rand, w, h, tenths int) api.Ink {
	g := paper(w, h)
	for i := range g.Pix {
		if r.Intn(10) < tenths {
			g.Pix[i] = 1
		}
	}
	return g
}

// samples returns some images, the same ones each time: wide ones, high ones, and ones without pixels.
func samples() []api.Ink {
	r := rand.New(rand.NewSource(2))
	var l []api.Ink
	for _, w := range []int{0, 1, 2, 21, 22, 32, 33, 63, 64, 65, 66, 127, 128, 129, 200, 639, 640} {
		for _, h := range []int{0, 1, 2, 5, 11, 30, 40} {
			l = append(l, scattered(r, w, h, 1+r.Intn(9)))
		}
	}
	return append(l, paper(0, 640), paper(640, 0), paper(1, 640))
}

// dropOf is the drop of a column by its definition; it is counted, not divided.
func dropOf(w, k, x int) int {
	left := x * k
	if k < 0 {
		left = (w - 1 - x) * -k
	}
	n := 0
	for left >= 64 {
		left -= 64
		n++
	}
	return n
}

// greatestOf is the greatest drop by its definition.
func greatestOf(w, k int) int {
	if w == 0 {
		return 0
	}
	if k < 0 {
		return dropOf(w, k, 0)
	}
	return dropOf(w, k, w-1)
}

// fullOf is the number of full rows by its definition.
func fullOf(g api.Ink) int {
	n := 0
	for y := range g.H {
		if g.W > 0 && bytes.Count(g.Pix[y*g.W:(y+1)*g.W], []byte{1}) == g.W {
			n++
		}
	}
	return n
}

// unskewed is Unskew by its definition, for an image that is high enough.
func unskewed(g api.Ink, k int) api.Ink {
	out := paper(g.W, g.H-greatestOf(g.W, k))
	for y := range out.H {
		for x := range out.W {
			if image.At(g, x, y+dropOf(g.W, k, x)) {
				out.Pix[y*out.W+x] = 1
			}
		}
	}
	return out
}

// grey returns a grey image of two levels.
func grey(t *testing.T, g api.Ink, dark, light int) api.Grey {
	t.Helper()
	out, e := clean.Grey(g, dark, light)
	if e != api.OK {
		t.Fatalf("Grey(%d, %d): error %d", dark, light, e)
	}
	return out
}

// invalid returns ink images that are not valid.
func invalid() []api.Ink {
	return []api.Ink{
		{W: 641, H: 1, Pix: make([]byte, 641)},
		{W: 1, H: 641, Pix: make([]byte, 641)},
		{W: -1, H: -1, Pix: []byte{1}},
		{W: 2, H: 2, Pix: []byte{1, 1, 1}},
		{W: 2, H: 2, Pix: []byte{1, 1, 1, 1, 1}},
		{W: 1, H: 1},
		{W: 2, H: 2, Pix: []byte{1, 1, 1, 2}},
		{W: 1, H: 1, Pix: []byte{255}},
	}
}

// invalidGrey returns grey images that are not valid.
func invalidGrey() []api.Grey {
	return []api.Grey{
		{W: 641, H: 0},
		{W: 0, H: 641},
		{W: -1, H: -1, Pix: []byte{0}},
		{W: 2, H: 1, Pix: []byte{0}},
		{W: 2, H: 1, Pix: []byte{0, 1, 2}},
		{W: 1, H: 1},
	}
}
