package stave

import (
	"bytes"

	"custos/api"
	"custos/image"
)

// Runs returns the line runs of staves.
func Runs(ink api.Ink, staves []api.Stave, most int) ([]api.Run, api.Errno) {
	columns, e := image.Columns(ink)
	if e != api.OK {
		return nil, e
	}
	for _, s := range staves {
		if !fits(ink, s) {
			return nil, api.ErrStave
		}
	}
	lined := draw(ink.W, ink.H, staves)
	var l []api.Run
	for _, r := range columns {
		if r.To-r.From < most && touches(lined, r) {
			l = append(l, r)
		}
	}
	return l, api.OK
}

// Remove returns an image without the line runs of staves.
func Remove(ink api.Ink, staves []api.Stave, most int) (api.Ink, api.Errno) {
	l, e := Runs(ink, staves, most)
	if e != api.OK {
		return api.Ink{}, e
	}
	out := twin(ink)
	for _, r := range l {
		for y := r.From; y <= r.To; y++ {
			out.Pix[y*out.W+r.At] = 0
		}
	}
	return out, api.OK
}

// Gauge returns the most common lengths of vertical runs of ink and of paper.
func Gauge(ink api.Ink) (black, white int, e api.Errno) {
	l, e := image.Columns(ink)
	if e != api.OK {
		return 0, 0, e
	}
	var blacks, whites [api.MaxSide + 1]int
	for i, r := range l {
		blacks[r.To-r.From+1]++
		if i > 0 && l[i-1].At == r.At {
			whites[r.From-l[i-1].To-1]++
		}
	}
	return mostCommon(blacks), mostCommon(whites), api.OK
}

// draw returns an image of given sides whose ink are the lines of staves that fit it.
func draw(w, h int, staves []api.Stave) api.Ink {
	g := api.Ink{W: w, H: h, Pix: make([]byte, w*h)}
	for _, s := range staves {
		for _, line := range s.Lines {
			for x, y := range line {
				g.Pix[y*w+x] = 1
			}
		}
	}
	return g
}

// touches reports whether an image has ink in a run of a column.
func touches(g api.Ink, r api.Run) bool {
	for y := r.From; y <= r.To; y++ {
		if g.Pix[y*g.W+r.At] == 1 {
			return true
		}
	}
	return false
}

// twin returns the same image in new memory.
func twin(g api.Ink) api.Ink {
	return api.Ink{W: g.W, H: g.H, Pix: bytes.Clone(g.Pix)}
}

// mostCommon returns the least of the lengths that occur most often, or 0 if none occurs. No length is 0.
func mostCommon(counts [api.MaxSide + 1]int) int {
	best := 0
	for length, n := range counts {
		if n > counts[best] {
			best = length
		}
	}
	return best
}
