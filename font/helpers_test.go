package font_test

import (
	"bytes"
	"math"
	"math/rand"
	"strings"
	"testing"

	"custos/api"
	"custos/font"
)

// extremes has numbers that lie outside of every image.
var extremes = []int{math.MinInt, math.MinInt + 1, -641, 641, math.MaxInt - 1, math.MaxInt}

// sets has all sets.
var sets = []font.Set{font.Heads, font.Accs, font.Dots, font.Ties, font.Rests, font.Clefs, font.Digits, font.Letters, font.Bars, font.Marks}

// noSets has numbers that are no sets.
var noSets = []font.Set{math.MinInt, -1, 0, 11, 12, math.MaxInt}

// read returns the image of a text of rows.
func read(text string) api.Ink {
	rows := strings.Fields(text)
	k := api.Ink{H: len(rows)}
	for _, row := range rows {
		k.W = len(row)
		for _, c := range row {
			pixel := byte(0)
			if c == '#' {
				pixel = 1
			}
			k.Pix = append(k.Pix, pixel)
		}
	}
	return k
}

// text returns the text of an image.
func text(k api.Ink) string {
	var b strings.Builder
	for y := range k.H {
		for x := range k.W {
			if has(k, x, y) {
				b.WriteString("#")
			} else {
				b.WriteString(".")
			}
		}
		b.WriteString("\n")
	}
	return b.String()
}

// has reports whether an image has ink at a point.
func has(k api.Ink, x, y int) bool {
	return x >= 0 && x < k.W && y >= 0 && y < k.H && k.Pix[y*k.W+x] == 1
}

// same compares two images.
func same(a, b api.Ink) bool {
	return a.W == b.W && a.H == b.H && bytes.Equal(a.Pix, b.Pix)
}

// zero reports whether an image is the zero image.
func zero(k api.Ink) bool {
	return k.W == 0 && k.H == 0 && len(k.Pix) == 0
}

// twin returns the same image in new memory.
func twin(k api.Ink) api.Ink {
	return api.Ink{W: k.W, H: k.H, Pix: bytes.Clone(k.Pix)}
}

// invert exchanges ink and paper of an image, in the image itself.
func invert(k api.Ink) {
	for i := range k.Pix {
		k.Pix[i] ^= 1
	}
}

// plain returns an image of paper, or of ink.
func plain(w, h int, pixel byte) api.Ink {
	return api.Ink{W: w, H: h, Pix: bytes.Repeat([]byte{pixel}, w*h)}
}

// scattered returns an image of given sides of which so many tenths are ink.
func scattered(r *rand.Rand, w, h, tenths int) api.Ink {
	k := plain(w, h, 0)
	for i := range k.Pix {
		if r.Intn(10) < tenths {
			k.Pix[i] = 1
		}
	}
	return k
}

// someLines returns rows within an image of h rows, above it and below it, in no order and some of them twice.
func someLines(r *rand.Rand, h int) []int {
	var l []int
	for range r.Intn(8) {
		l = append(l, r.Intn(h+6)-3)
	}
	return l
}

// glyph returns a glyph that there is.
func glyph(t *testing.T, s font.Set, value int) api.Ink {
	t.Helper()
	g, e := font.Glyph(s, value)
	if e != api.OK {
		t.Fatalf("Glyph(%d, %d): error %d", s, value, e)
	}
	return g
}

// invalid returns ink images that are not valid.
func invalid() []api.Ink {
	return []api.Ink{
		{W: 641, H: 1, Pix: make([]byte, 641)},
		{W: 1, H: 641, Pix: make([]byte, 641)},
		{W: 641, H: 0},
		{W: 0, H: 641},
		{W: -1, H: -1, Pix: []byte{1}},
		{W: -1, H: 0},
		{W: 0, H: -1},
		{W: math.MinInt, H: 2},
		{W: math.MaxInt, H: math.MaxInt, Pix: []byte{1}},
		{W: 2, H: 2, Pix: []byte{1, 1, 1}},
		{W: 2, H: 2, Pix: []byte{1, 1, 1, 1, 1}},
		{W: 1, H: 1},
		{Pix: []byte{0}},
		{W: 2, H: 2, Pix: []byte{2, 1, 1, 1}},
		{W: 2, H: 2, Pix: []byte{1, 1, 1, 2}},
		{W: 1, H: 1, Pix: []byte{255}},
	}
}

// empties returns the valid images without pixels.
func empties() []api.Ink {
	return []api.Ink{{}, {Pix: []byte{}}, {W: 3}, {H: 3}, {W: 640}, {H: 640}}
}

// TestInvalidImages gives images that are not valid to all functions, with other arguments that would do.
func TestInvalidImages(t *testing.T) {
	dot := plain(1, 1, 1)
	for i, k := range invalid() {
		if font.Right(k) {
			t.Error(i, "Right")
		}
		if !zero(font.Lined(k, []int{0})) || !zero(font.Dress(k, []int{0})) || !zero(font.Window(k, api.Rect{W: 1, H: 1})) {
			t.Error(i, "an image of an invalid one")
		}
		for _, other := range []api.Ink{dot, k} {
			if font.Miss(k, other) != -1 || font.Miss(other, k) != -1 {
				t.Error(i, "Miss")
			}
			if none := (api.Ratio{N: 0, D: 1}); font.Share(k, other) != none || font.Share(other, k) != none {
				t.Error(i, "Share")
			}
			if len(font.Find(k, other, 1000)) != 0 || len(font.Find(other, k, 1000)) != 0 {
				t.Error(i, "Find")
			}
		}
		if len(font.Pixels(k, api.Rect{X: -9, Y: -9, W: 1000, H: 1000})) != 0 || font.Show(k) != "" {
			t.Error(i, "Pixels or Show")
		}
	}
}
