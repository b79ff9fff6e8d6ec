package image

import (
	"iter"

	"custos/api"
)

// Box returns the least rectangle that contains all ink.
func Box(g api.Ink) (api.Rect, api.Errno) {
	rows, columns, e := Profile(g)
	if e != api.OK {
		return api.Rect{}, e
	}
	x, w := extent(columns)
	y, h := extent(rows)
	return api.Rect{X: x, Y: y, W: w, H: h}, api.OK
}

// Rows returns the runs of the rows.
func Rows(g api.Ink) ([]api.Run, api.Errno) {
	if e := Check(g); e != api.OK {
		return nil, e
	}
	var l []api.Run
	for r := range runs(g.H, g.W, func(at, i int) bool { return ink(g, i, at) }) {
		l = append(l, r)
	}
	return l, api.OK
}

// Columns returns the runs of the columns.
func Columns(g api.Ink) ([]api.Run, api.Errno) {
	if e := Check(g); e != api.OK {
		return nil, e
	}
	var l []api.Run
	for r := range runs(g.W, g.H, func(at, i int) bool { return ink(g, at, i) }) {
		l = append(l, r)
	}
	return l, api.OK
}

// FromRows returns the image with some runs of rows.
func FromRows(w, h int, l []api.Run) (api.Ink, api.Errno) {
	g, e := New(w, h)
	if e != api.OK {
		return api.Ink{}, e
	}
	if !proper(l, h, w) {
		return api.Ink{}, api.ErrArg
	}
	for _, r := range l {
		for x := r.From; x <= r.To; x++ {
			g.Pix[r.At*w+x] = 1
		}
	}
	return g, api.OK
}

// FromColumns returns the image with some runs of columns.
func FromColumns(w, h int, l []api.Run) (api.Ink, api.Errno) {
	g, e := New(w, h)
	if e != api.OK {
		return api.Ink{}, e
	}
	if !proper(l, w, h) {
		return api.Ink{}, api.ErrArg
	}
	for _, r := range l {
		for y := r.From; y <= r.To; y++ {
			g.Pix[y*w+r.At] = 1
		}
	}
	return g, api.OK
}

// Profile returns how many ink pixels each row and each column has.
func Profile(g api.Ink) (rows, columns []int, e api.Errno) {
	if e := Check(g); e != api.OK {
		return nil, nil, e
	}
	rows, columns = make([]int, g.H), make([]int, g.W)
	for y := range g.H {
		for x, p := range line(g, y) {
			rows[y] += int(p)
			columns[x] += int(p)
		}
	}
	return rows, columns, api.OK
}

// extent returns the first of the lines with ink, and how many there are from it to the last one; 0 and 0 if there is none.
func extent(profile []int) (first, n int) {
	for i, ink := range profile {
		if ink > 0 && n == 0 {
			first = i
		}
		if ink > 0 {
			n = i + 1 - first
		}
	}
	return first, n
}

// runs yields the runs of so many lines with so many pixels each.
func runs(lines, length int, ink func(at, i int) bool) iter.Seq[api.Run] {
	return func(yield func(api.Run) bool) {
		for at := range lines {
			for i := 0; i < length; i++ {
				if !ink(at, i) {
					continue
				}
				from := i
				for i+1 < length && ink(at, i+1) {
					i++
				}
				if !yield(api.Run{At: at, From: from, To: i}) {
					return
				}
			}
		}
	}
}

// proper reports whether a list may be the runs of so many lines with so many pixels each.
func proper(l []api.Run, lines, length int) bool {
	for i, r := range l {
		if r.At < 0 || r.At >= lines || r.From < 0 || r.From > r.To || r.To >= length {
			return false
		}
		if i > 0 && !apart(l[i-1], r) {
			return false
		}
	}
	return true
}

// apart reports whether run b comes after run a with paper or the end of a line between them.
func apart(a, b api.Run) bool {
	return b.At > a.At || b.At == a.At && b.From > a.To+1
}
