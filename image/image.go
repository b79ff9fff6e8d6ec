// Package image is layer 1: see shared/doc/01-image.md.
package image

import (
	"bytes"

	"custos/api"
)

// Ways of turning.
const (
	Same   = 0
	Right  = 1
	Half   = 2
	Left   = 3
	Mirror = 4
)

// MaxBrush is the limit of the sides of a brush.
const MaxBrush = 64

// Component is a set of connected ink pixels.
type Component struct {
	Box    api.Rect
	Pixels []api.Point
}

// Check reports whether an ink image is valid.
func Check(g api.Ink) api.Errno {
	if !sized(g.W, g.H, len(g.Pix)) {
		return api.ErrSize
	}
	if bytes.Count(g.Pix, []byte{0})+count(g) != len(g.Pix) {
		return api.ErrPixel
	}
	return api.OK
}

// CheckGrey reports whether a grey image is valid.
func CheckGrey(g api.Grey) api.Errno {
	if !sized(g.W, g.H, len(g.Pix)) {
		return api.ErrSize
	}
	return api.OK
}

// New returns an image of paper.
func New(w, h int) (api.Ink, api.Errno) {
	if !side(w) || !side(h) {
		return api.Ink{}, api.ErrSize
	}
	return blank(w, h), api.OK
}

// At reports whether a pixel is ink.
func At(g api.Ink, x, y int) bool {
	// The pixel comes before the check of all others, which takes longer.
	return sized(g.W, g.H, len(g.Pix)) && ink(g, x, y) && Check(g) == api.OK
}

// Count returns how many pixels are ink.
func Count(g api.Ink) (int, api.Errno) {
	if e := Check(g); e != api.OK {
		return 0, e
	}
	return count(g), api.OK
}

// side reports whether an image may have a side of n pixels.
func side(n int) bool {
	return n >= 0 && n <= api.MaxSide
}

// sized reports whether an image of w columns and h rows may have n pixels.
func sized(w, h, n int) bool {
	return side(w) && side(h) && n == w*h
}

// blank returns an image of paper whose sides are known to be right.
func blank(w, h int) api.Ink {
	return api.Ink{W: w, H: h, Pix: make([]byte, w*h)}
}

// twin returns the same image in new memory.
func twin(g api.Ink) api.Ink {
	return api.Ink{W: g.W, H: g.H, Pix: bytes.Clone(g.Pix)}
}

// line returns a row of an image, in the memory of the image.
func line(g api.Ink, y int) []byte {
	return g.Pix[y*g.W : (y+1)*g.W]
}

// ink is At for an image of the right size.
func ink(g api.Ink, x, y int) bool {
	return x >= 0 && x < g.W && y >= 0 && y < g.H && g.Pix[y*g.W+x] == 1
}

// count is Count without a check.
func count(g api.Ink) int {
	return bytes.Count(g.Pix, []byte{1})
}
