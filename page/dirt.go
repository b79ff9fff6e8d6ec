package page

import (
	"bytes"

	"custos/api"
	"custos/font"
)

// shades is how many levels ink may have, from black on, and paper, from white down.
const shades = 61

// Blot returns an image with specks.
func Blot(k api.Ink, l []api.Point) (api.Ink, api.Errno) {
	if !font.Right(k) {
		return api.Ink{}, api.ErrSize
	}
	out := api.Ink{W: k.W, H: k.H, Pix: bytes.Clone(k.Pix)}
	for _, p := range l {
		switch {
		case !within(p.X, 0, k.W-1) || !within(p.Y, 0, k.H-1):
			return api.Ink{}, api.ErrRange
		case touched(out, p):
			return api.Ink{}, api.ErrClose
		}
		out.Pix[p.Y*out.W+p.X] = 1
	}
	return out, api.OK
}

// touched reports whether a pixel of an image, or one of the eight around it, is ink.
func touched(k api.Ink, p api.Point) bool {
	left, right := max(p.X-1, 0), min(p.X+1, k.W-1)
	for y := max(p.Y-1, 0); y <= min(p.Y+1, k.H-1); y++ {
		if bytes.IndexByte(k.Pix[y*k.W+left:y*k.W+right+1], 1) >= 0 {
			return true
		}
	}
	return false
}

// Shade returns a grey image.
func Shade(k api.Ink, levels []byte) (api.Grey, api.Errno) {
	if !font.Right(k) {
		return api.Grey{}, api.ErrSize
	}
	if len(levels) == 0 {
		levels = []byte{0}
	}
	g := api.Grey{W: k.W, H: k.H, Pix: make([]byte, len(k.Pix))}
	for i, p := range k.Pix {
		level := levels[i%len(levels)] % shades
		if p == 0 {
			level = 255 - level
		}
		g.Pix[i] = level
	}
	return g, api.OK
}
