package image

import (
	"slices"

	"custos/api"
)

// Dilate returns a dilated image.
func Dilate(g api.Ink, w, h int) (api.Ink, api.Errno) {
	if e := checkBrush(g, w, h); e != api.OK {
		return api.Ink{}, e
	}
	out := twin(g)
	brush(out, w, h)
	return out, api.OK
}

// Erode returns an eroded image.
func Erode(g api.Ink, w, h int) (api.Ink, api.Errno) {
	if e := checkBrush(g, w, h); e != api.OK {
		return api.Ink{}, e
	}
	out := twin(g)
	// To erode ink is to dilate paper the other way round, and what lies outside is never ink of an exchanged image.
	invert(out)
	slices.Reverse(out.Pix)
	brush(out, w, h)
	slices.Reverse(out.Pix)
	invert(out)
	return out, api.OK
}

// checkBrush returns the error of an image, or of the sides of a brush.
func checkBrush(g api.Ink, w, h int) api.Errno {
	if e := Check(g); e != api.OK {
		return e
	}
	if w < 1 || w > MaxBrush || h < 1 || h > MaxBrush {
		return api.ErrArg
	}
	return api.OK
}

// brush dilates an image in place: a rectangle is a row of columns.
func brush(g api.Ink, w, h int) {
	for y := range g.H {
		spread(g.Pix, y*g.W, 1, g.W, w)
	}
	for x := range g.W {
		spread(g.Pix, x, g.W, g.H, h)
	}
}

// spread dilates a line by n pixels in place. The line has count pixels, which are step apart from the first one on.
func spread(pix []byte, first, step, count, n int) {
	left := 0
	for i := first + (count-1)*step; i >= first; i -= step {
		if pix[i] == 1 {
			left = n
		}
		if left > 0 {
			pix[i] = 1
			left--
		}
	}
}
