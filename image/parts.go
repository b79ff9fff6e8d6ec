package image

import (
	"custos/api"
)

// Crop returns a part of an image.
func Crop(g api.Ink, r api.Rect) (api.Ink, api.Errno) {
	if e := Check(g); e != api.OK {
		return api.Ink{}, e
	}
	if !lies(r, g) {
		return api.Ink{}, api.ErrArg
	}
	out := blank(r.W, r.H)
	for y := range r.H {
		copy(line(out, y), line(g, r.Y+y)[r.X:])
	}
	return out, api.OK
}

// Paste returns an image with a part in it.
func Paste(g, part api.Ink, x, y int) (api.Ink, api.Errno) {
	if e := Check(g); e != api.OK {
		return api.Ink{}, e
	}
	if e := Check(part); e != api.OK {
		return api.Ink{}, e
	}
	if !lies(api.Rect{X: x, Y: y, W: part.W, H: part.H}, g) {
		return api.Ink{}, api.ErrArg
	}
	out := twin(g)
	for i := range part.H {
		copy(line(out, y+i)[x:], line(part, i))
	}
	return out, api.OK
}

// Or returns the ink of either image.
func Or(a, b api.Ink) (api.Ink, api.Errno) {
	return combine(a, b, func(p, q byte) byte { return p | q })
}

// And returns the ink of both images.
func And(a, b api.Ink) (api.Ink, api.Errno) {
	return combine(a, b, func(p, q byte) byte { return p & q })
}

// Less returns the ink of a that is not ink of b.
func Less(a, b api.Ink) (api.Ink, api.Errno) {
	return combine(a, b, func(p, q byte) byte { return p &^ q })
}

// Not exchanges ink and paper.
func Not(g api.Ink) (api.Ink, api.Errno) {
	if e := Check(g); e != api.OK {
		return api.Ink{}, e
	}
	out := twin(g)
	invert(out)
	return out, api.OK
}

// Distance returns the number of pixels that differ.
func Distance(a, b api.Ink) (int, api.Errno) {
	differ, e := combine(a, b, func(p, q byte) byte { return p ^ q })
	if e != api.OK {
		return 0, e
	}
	return count(differ), api.OK
}

// lies reports whether a rectangle lies in an image.
func lies(r api.Rect, g api.Ink) bool {
	return within(r.X, r.W, g.W) && within(r.Y, r.H, g.H)
}

// within reports whether n pixels from one on lie in a line. Differences are compared, since sums might overflow.
func within(from, n, length int) bool {
	return from >= 0 && n >= 0 && from <= length && n <= length-from
}

// combine returns the image whose pixels are made of those of two images with the same sides.
func combine(a, b api.Ink, pixel func(p, q byte) byte) (api.Ink, api.Errno) {
	if e := Check(a); e != api.OK {
		return api.Ink{}, e
	}
	if e := Check(b); e != api.OK {
		return api.Ink{}, e
	}
	if a.W != b.W || a.H != b.H {
		return api.Ink{}, api.ErrSize
	}
	out := blank(a.W, a.H)
	for i, p := range a.Pix {
		out.Pix[i] = pixel(p, b.Pix[i])
	}
	return out, api.OK
}

// invert exchanges ink and paper in place.
func invert(g api.Ink) {
	for i := range g.Pix {
		g.Pix[i] ^= 1
	}
}
