package image

import (
	"custos/api"
)

// around has the eight neighbours of a pixel, clockwise from the upper one; every other one of them is one of the four.
var around = [8]api.Point{{X: 0, Y: -1}, {X: 1, Y: -1}, {X: 1, Y: 0}, {X: 1, Y: 1}, {X: 0, Y: 1}, {X: -1, Y: 1}, {X: -1, Y: 0}, {X: -1, Y: -1}}

// Components returns the connected components.
func Components(g api.Ink, eight bool) ([]Component, api.Errno) {
	if e := Check(g); e != api.OK {
		return nil, e
	}
	marks, n := label(g, eight)
	l := make([]Component, n)
	for i, m := range marks {
		if m == 0 {
			continue
		}
		c := &l[m-1]
		p := api.Point{X: i % g.W, Y: i / g.W}
		c.Box = stretch(c.Box, p)
		c.Pixels = append(c.Pixels, p)
	}
	return l, api.OK
}

// Despeckle removes small components.
func Despeckle(g api.Ink, least int) (api.Ink, api.Errno) {
	l, e := Components(g, true)
	if e != api.OK {
		return api.Ink{}, e
	}
	out := twin(g)
	for _, c := range l {
		if len(c.Pixels) >= least {
			continue
		}
		for _, p := range c.Pixels {
			out.Pix[p.Y*out.W+p.X] = 0
		}
	}
	return out, api.OK
}

// label gives each ink pixel the number of its component, from 1 on in the order of their first pixels, and paper 0; it returns how many components there are, too.
func label(g api.Ink, eight bool) (marks []int, n int) {
	marks = make([]int, len(g.Pix))
	for i, p := range g.Pix {
		if p == 1 && marks[i] == 0 {
			n++
			flood(g, eight, marks, i, n)
		}
	}
	return marks, n
}

// flood marks the component of a pixel with its number.
func flood(g api.Ink, eight bool, marks []int, start, number int) {
	step := 2
	if eight {
		step = 1
	}
	marks[start] = number
	waiting := []int{start}
	for len(waiting) > 0 {
		i := waiting[len(waiting)-1]
		waiting = waiting[:len(waiting)-1]
		for k := 0; k < len(around); k += step {
			x, y := i%g.W+around[k].X, i/g.W+around[k].Y
			if ink(g, x, y) && marks[y*g.W+x] == 0 {
				marks[y*g.W+x] = number
				waiting = append(waiting, y*g.W+x)
			}
		}
	}
}

// stretch returns the least rectangle that contains a rectangle, which may be empty, and a pixel.
func stretch(r api.Rect, p api.Point) api.Rect {
	if r.W == 0 {
		return api.Rect{X: p.X, Y: p.Y, W: 1, H: 1}
	}
	x, y := min(r.X, p.X), min(r.Y, p.Y)
	return api.Rect{X: x, Y: y, W: max(r.X+r.W, p.X+1) - x, H: max(r.Y+r.H, p.Y+1) - y}
}
