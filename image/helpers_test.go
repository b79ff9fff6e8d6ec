package image_test

import (
	"bytes"
	"math/rand"
	"testing"

	"custos/api"
	"custos/image"
)

// read returns the image of a text.
func read(t *testing.T, text string) api.Ink {
	t.Helper()
	g, i, e := image.Parse(text)
	if e != api.OK {
		t.Fatalf("Parse(%q): line %d, error %d", text, i, e)
	}
	return g
}

// show returns the text of an image.
func show(g api.Ink) string {
	s, e := image.Format(g)
	if e != api.OK {
		return "no image"
	}
	return s
}

// same compares two images.
func same(a, b api.Ink) bool {
	return a.W == b.W && a.H == b.H && bytes.Equal(a.Pix, b.Pix)
}

// zero reports whether an image is the zero image.
func zero(g api.Ink) bool {
	return g.W == 0 && g.H == 0 && len(g.Pix) == 0
}

// must returns an image that a call returned without an error.
func must(t *testing.T) func(g api.Ink, e api.Errno) api.Ink {
	return func(g api.Ink, e api.Errno) api.Ink {
		t.Helper()
		if e != api.OK {
			t.Fatalf("error %d", e)
		}
		return g
	}
}

// filled returns an image of ink.
func filled(w, h int) api.Ink {
	return api.Ink{W: w, H: h, Pix: bytes.Repeat([]byte{1}, w*h)}
}

// small returns the image of given sides whose pixels are the bits of a number.
func small(w, h, bits int) api.Ink {
	g := api.Ink{W: w, H: h, Pix: make([]byte, w*h)}
	for i := range g.Pix {
		g.Pix[i] = byte(bits >> i & 1)
	}
	return g
}

// scattered returns some images of various sides and densities, the same ones each time.
func scattered(n, most int) []api.Ink {
	r := rand.New(rand.NewSource(1))
	var l []api.Ink
	for range n {
		g := api.Ink{W: r.Intn(most + 1), H: r.Intn(most + 1)}
		g.Pix = make([]byte, g.W*g.H)
		full := 1 + r.Intn(9)
		for i := range g.Pix {
			if r.Intn(10) < full {
				g.Pix[i] = 1
			}
		}
		l = append(l, g)
	}
	return l
}

// within reports whether all ink of a is ink of b.
func within(a, b api.Ink) bool {
	for i, p := range a.Pix {
		if p > b.Pix[i] {
			return false
		}
	}
	return true
}

// byDefinition returns the image of given sides in which a pixel is ink if it shall be.
func byDefinition(w, h int, shall func(x, y int) bool) api.Ink {
	g := api.Ink{W: w, H: h, Pix: make([]byte, w*h)}
	for y := range h {
		for x := range w {
			if shall(x, y) {
				g.Pix[y*w+x] = 1
			}
		}
	}
	return g
}
