package font

import (
	"iter"
	"slices"
	"strings"

	"custos/api"
)

// sheet is a valid image that is examined.
type sheet struct{ api.Ink }

// ruled is a sheet with lines: it has ink in the rows that are marked.
type ruled struct {
	sheet
	marked []bool
}

// Lined returns an image with lines.
func Lined(k api.Ink, lines []int) api.Ink {
	if !Right(k) {
		return api.Ink{}
	}
	return paint(k.W, k.H, rule(k, lines).lined)
}

// Dress returns an image dressed with lines.
func Dress(k api.Ink, lines []int) api.Ink {
	if !Right(k) {
		return api.Ink{}
	}
	return paint(k.W, k.H, rule(k, lines).dressed)
}

// Window returns a part of an image.
func Window(k api.Ink, r api.Rect) api.Ink {
	if !Right(k) || !side(r.W) || !side(r.H) {
		return api.Ink{}
	}
	s := sheet{k}
	return paint(r.W, r.H, func(x, y int) byte {
		// A sum that overflows is below 0, and outside of the image, too.
		return s.at(r.X+x, r.Y+y)
	})
}

// Pixels returns the ink pixels in a rectangle.
func Pixels(k api.Ink, r api.Rect) []api.Point {
	if !Right(k) {
		return nil
	}
	x, w := cut(r.X, r.W, k.W)
	y, h := cut(r.Y, r.H, k.H)
	return slices.Collect(sheet{k}.pixels(api.Rect{X: x, Y: y, W: w, H: h}))
}

// Show returns an image as a text.
func Show(k api.Ink) string {
	if !Right(k) {
		return ""
	}
	var b strings.Builder
	for y := range k.H {
		for _, p := range k.Pix[y*k.W : (y+1)*k.W] {
			b.WriteByte(signs[p])
		}
		b.WriteByte('\n')
	}
	return b.String()
}

// at returns a pixel; outside of the image there is paper.
func (s sheet) at(x, y int) byte {
	if x < 0 || x >= s.W || y < 0 || y >= s.H {
		return paper
	}
	return s.Pix[y*s.W+x]
}

// pixels yields the ink pixels in a rectangle, row by row, from left to right.
func (s sheet) pixels(r api.Rect) iter.Seq[api.Point] {
	return func(yield func(p api.Point) bool) {
		for p := range points(r) {
			if s.at(p.X, p.Y) == ink && !yield(p) {
				return
			}
		}
	}
}

// rule returns a valid image with lines.
func rule(k api.Ink, lines []int) ruled {
	r := ruled{sheet{k}, make([]bool, k.H)}
	for _, y := range lines {
		if y >= 0 && y < k.H {
			r.marked[y] = true
		}
	}
	return r
}

// lined returns a pixel of the image with the lines.
func (r ruled) lined(x, y int) byte {
	if y >= 0 && y < r.H && r.marked[y] {
		return ink
	}
	return r.at(x, y)
}

// dressed returns a pixel of the image from which the lines are removed again.
func (r ruled) dressed(x, y int) byte {
	if r.marked[y] && r.lined(x, y-1) == paper && r.lined(x, y+1) == paper {
		return paper
	}
	return r.lined(x, y)
}

// paint returns the image of w by h pixels of which a function tells each pixel.
func paint(w, h int, pixel func(x, y int) byte) api.Ink {
	k := api.Ink{W: w, H: h, Pix: make([]byte, 0, w*h)}
	for p := range points(api.Rect{W: w, H: h}) {
		k.Pix = append(k.Pix, pixel(p.X, p.Y))
	}
	return k
}

// points yields the points of a rectangle, row by row, from left to right.
func points(r api.Rect) iter.Seq[api.Point] {
	return func(yield func(p api.Point) bool) {
		for y := range r.H {
			for x := range r.W {
				if !yield(api.Point{X: r.X + x, Y: r.Y + y}) {
					return
				}
			}
		}
	}
}

// cut returns the first one of n places from a place on that are among the first length ones, and how many of them are; a count below 1 says that none is.
func cut(from, n, length int) (first, count int) {
	switch {
	case n <= 0:
		return 0, 0
	case from < 0:
		return 0, min(from+n, length)
	default:
		// The sum of from and n might overflow.
		return from, min(n, length-from)
	}
}
