package stave

import (
	"iter"

	"custos/api"
	"custos/image"
)

// Rectify returns the strip along the bottom line of a stave.
func Rectify(ink api.Ink, s api.Stave, up, down int) (api.Ink, api.Errno) {
	if e := Check(ink, s); e != api.OK {
		return api.Ink{}, e
	}
	if up < 0 || down < 0 {
		return api.Ink{}, api.ErrArg
	}
	// The numbers are cut, since their sum might overflow; one that is cut is too great anyway.
	strip, e := image.New(ink.W, min(up, api.MaxSide)+min(down, api.MaxSide)+1)
	if e != api.OK {
		return api.Ink{}, e
	}
	for i, j := range common(ink, strip, s, up) {
		strip.Pix[j] = ink.Pix[i]
	}
	return strip, api.OK
}

// Restore puts a strip back into an image.
func Restore(ink, strip api.Ink, s api.Stave, up int) (api.Ink, api.Errno) {
	if e := image.Check(ink); e != api.OK {
		return api.Ink{}, e
	}
	if e := image.Check(strip); e != api.OK {
		return api.Ink{}, e
	}
	if !fits(ink, s) {
		return api.Ink{}, api.ErrStave
	}
	if up < 0 || up >= strip.H {
		return api.Ink{}, api.ErrArg
	}
	if strip.W != ink.W {
		return api.Ink{}, api.ErrSize
	}
	out := twin(ink)
	for i, j := range common(ink, strip, s, up) {
		out.Pix[i] = strip.Pix[j]
	}
	return out, api.OK
}

// common yields where the pixels are that an image and its strip have in common: in the image, and in the strip. The bottom line of the stave is row up of the strip.
func common(ink, strip api.Ink, s api.Stave, up int) iter.Seq2[int, int] {
	return func(yield func(i, j int) bool) {
		for x, bottom := range s.Lines[size-1] {
			top := bottom - up
			for y := max(top, 0); y < min(top+strip.H, ink.H); y++ {
				if !yield(y*ink.W+x, (y-top)*strip.W+x) {
					return
				}
			}
		}
	}
}
