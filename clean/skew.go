package clean

import (
	"slices"

	"custos/api"
	"custos/image"
)

// slope is how many columns a skew of 1 takes for a drop of 1.
const slope = 64

// Drop returns the drop of a column.
func Drop(w, k, x int) (int, api.Errno) {
	if w < 1 || w > api.MaxSide || !isSkew(k) || x < 0 || x >= w {
		return 0, api.ErrArg
	}
	return drop(w, k, x), api.OK
}

// Skew returns a skewed image.
func Skew(ink api.Ink, k int) (api.Ink, api.Errno) {
	if e := checkSkew(ink, k); e != api.OK {
		return api.Ink{}, e
	}
	down, greatest := drops(ink.W, k)
	out, e := image.New(ink.W, ink.H+greatest)
	if e != api.OK {
		return api.Ink{}, e
	}
	for y := range ink.H {
		for x := range ink.W {
			out.Pix[(y+down[x])*out.W+x] = ink.Pix[y*ink.W+x]
		}
	}
	return out, api.OK
}

// Unskew returns a straightened image.
func Unskew(ink api.Ink, k int) (api.Ink, api.Errno) {
	if e := checkSkew(ink, k); e != api.OK {
		return api.Ink{}, e
	}
	down, greatest := drops(ink.W, k)
	out, e := image.New(ink.W, ink.H-greatest)
	if e != api.OK {
		return api.Ink{}, e
	}
	for y := range out.H {
		for x := range out.W {
			out.Pix[y*out.W+x] = ink.Pix[(y+down[x])*ink.W+x]
		}
	}
	return out, api.OK
}

// Full returns the number of full rows.
func Full(ink api.Ink) (int, api.Errno) {
	rows, _, e := image.Profile(ink)
	if e != api.OK {
		return 0, e
	}
	full := 0
	for _, n := range rows {
		if n == ink.W && n > 0 {
			full++
		}
	}
	return full, api.OK
}

// FindSkew returns the skew of an image.
func FindSkew(ink api.Ink) (int, api.Errno) {
	if e := image.Check(ink); e != api.OK {
		return 0, e
	}
	best, most := 0, -1
	for k := range skews {
		if n, e := fullWithout(ink, k); e == api.OK && n > most {
			best, most = k, n
		}
	}
	return best, api.OK
}

// fullWithout returns the number of full rows of an image from which a skew is taken.
func fullWithout(ink api.Ink, k int) (int, api.Errno) {
	straight, e := Unskew(ink, k)
	if e != api.OK {
		return 0, e
	}
	return Full(straight)
}

// skews yields all skews, the one that is preferred first.
func skews(yield func(k int) bool) {
	if !yield(0) {
		return
	}
	for k := 1; k <= MaxSkew; k++ {
		if !yield(k) || !yield(-k) {
			return
		}
	}
}

// checkSkew returns the error of an image, or of a skew.
func checkSkew(ink api.Ink, k int) api.Errno {
	if e := image.Check(ink); e != api.OK {
		return e
	}
	if !isSkew(k) {
		return api.ErrArg
	}
	return api.OK
}

// isSkew reports whether a number is a skew.
func isSkew(k int) bool {
	return k >= -MaxSkew && k <= MaxSkew
}

// drops returns the drop of each column of an image of w columns, and the greatest one.
func drops(w, k int) (down [api.MaxSide]int, greatest int) {
	for x := range w {
		down[x] = drop(w, k, x)
	}
	return down, slices.Max(down[:])
}

// drop is Drop without a check.
func drop(w, k, x int) int {
	if k < 0 {
		return (w - 1 - x) * -k / slope
	}
	return x * k / slope
}
