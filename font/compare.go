package font

import (
	"bytes"
	"cmp"
	"slices"

	"custos/api"
)

// Miss returns how many pixels differ.
func Miss(a, b api.Ink) int {
	if !Right(a) || !Right(b) || a.W != b.W || a.H != b.H {
		return -1
	}
	return comparison(a, b, len(a.Pix))(api.Point{})
}

// Share returns the fraction of equal pixels.
func Share(a, b api.Ink) api.Ratio {
	miss, all := Miss(a, b), len(a.Pix)
	switch {
	case miss < 0:
		return api.Ratio{N: 0, D: 1}
	case all == 0:
		return api.Ratio{N: 1, D: 1}
	}
	n := divisor(all-miss, all)
	return api.Ratio{N: (all - miss) / n, D: all / n}
}

// Options compares an image with the glyphs of a set.
func Options(w api.Ink, s Set, lines []int, lined bool) []api.Option {
	// A set that does not exist has no size, but Size answers that of an image without pixels.
	if width, height := Size(s); width == 0 || !Right(w) || w.W != width || w.H != height {
		return nil
	}
	draw := Dress
	if lined {
		draw = Lined
	}
	blank := api.Ink{W: w.W, H: w.H, Pix: make([]byte, len(w.Pix))}
	l := []api.Option{{Value: 0, Miss: Miss(w, blank)}}
	for value, text := range drawings(s) {
		if text != "" {
			l = append(l, api.Option{Value: value, Miss: Miss(w, draw(read(text), lines))})
		}
	}
	slices.SortStableFunc(l, func(a, b api.Option) int { return cmp.Compare(a.Miss, b.Miss) })
	return l
}

// Find returns the places at which a glyph stands in an image.
func Find(k, g api.Ink, most int) []api.Point {
	if !Right(k) || !Right(g) || len(g.Pix) == 0 {
		return nil
	}
	miss := comparison(k, g, most)
	var l []api.Point
	for p := range points(api.Rect{W: k.W - g.W + 1, H: k.H - g.H + 1}) {
		if miss(p) <= most {
			l = append(l, p)
		}
	}
	return l
}

// comparison returns a function that counts the pixels of an image g that differ from those of an image k, if g lies in k from a place on. Counting ends after a row with which there are more than most.
func comparison(k, g api.Ink, most int) func(at api.Point) int {
	over, under := pack(g), pack(k)
	mask := pack(api.Ink{W: g.W, H: 1, Pix: bytes.Repeat([]byte{ink}, g.W)}).row(0)
	return func(at api.Point) int {
		n := 0
		for y := 0; y < g.H && n <= most; y++ {
			n += difference(over.row(y), mask, under.row(at.Y+y), at.X)
		}
		return n
	}
}

// divisor returns the greatest common divisor of two numbers of which the second one is not 0.
func divisor(a, b int) int {
	for a != 0 {
		a, b = b%a, a
	}
	return b
}
