package stave

import (
	"cmp"
	"iter"
	"slices"

	"custos/api"
	"custos/image"
)

// What paths cost.
const (
	paperCost  = 2
	changeCost = 1
)

// share is how many times the cost of a line goes into the number of columns, at least.
const share = 8

// endless is more than any path costs.
const endless = (paperCost + changeCost) * api.MaxSide

// ground is where paths are looked for: an image column by column, with what each pixel costs, and with what the cheapest path costs from it on.
type ground struct {
	w, h        int
	price, rest []int
}

// Cost returns the cost of a path.
func Cost(ink api.Ink, path []int) (int, api.Errno) {
	if e := image.Check(ink); e != api.OK {
		return 0, e
	}
	if !isPath(ink, path) {
		return 0, api.ErrArg
	}
	cost := 0
	for x, y := range path {
		cost += price(ink, x, y)
		if x > 0 {
			cost += change(path[x-1], y)
		}
	}
	return cost, api.OK
}

// Trace finds lines.
func Trace(ink api.Ink) ([][]int, api.Errno) {
	if e := image.Check(ink); e != api.OK {
		return nil, e
	}
	if len(ink.Pix) == 0 {
		return nil, api.OK
	}
	g := survey(ink)
	var lines [][]int
	for len(lines) < MaxLines && share*g.measure() <= g.w {
		line := g.follow()
		g.forbid(line)
		lines = append(lines, line)
	}
	slices.SortFunc(lines, func(a, b []int) int { return cmp.Compare(a[0], b[0]) })
	return lines, api.OK
}

// isPath reports whether a list is a path of a valid image.
func isPath(ink api.Ink, path []int) bool {
	if len(path) == 0 || len(path) != ink.W {
		return false
	}
	for x, y := range path {
		if y < 0 || y >= ink.H {
			return false
		}
		if x > 0 && (y < path[x-1]-1 || y > path[x-1]+1) {
			return false
		}
	}
	return true
}

// price returns what a pixel costs.
func price(ink api.Ink, x, y int) int {
	if ink.Pix[y*ink.W+x] == 1 {
		return 0
	}
	return paperCost
}

// change returns what it costs to go from a row to one beside it.
func change(from, to int) int {
	if from == to {
		return 0
	}
	return changeCost
}

// survey returns the ground of an image that has pixels.
func survey(ink api.Ink) ground {
	g := ground{w: ink.W, h: ink.H, price: make([]int, len(ink.Pix)), rest: make([]int, len(ink.Pix))}
	for x := range g.w {
		for y := range g.h {
			g.price[x*g.h+y] = price(ink, x, y)
		}
	}
	return g
}

// measure finds what the cheapest path costs from each pixel on, and returns what the cheapest one of all costs.
func (g ground) measure() int {
	from := func(x, y int) int {
		n := g.price[x*g.h+y]
		if x < g.w-1 {
			_, rest := next(g.column(x+1), y)
			n += rest
		}
		return n
	}
	for x := g.w - 1; x >= 0; x-- {
		column := g.column(x)
		for y := range column {
			column[y] = from(x, y)
		}
	}
	return slices.Min(g.column(0))
}

// follow returns the cheapest path, after a measurement; of several the first one.
func (g ground) follow() []int {
	first := g.column(0)
	path := make([]int, g.w)
	path[0] = slices.Index(first, slices.Min(first))
	for x := 1; x < g.w; x++ {
		path[x], _ = next(g.column(x), path[x-1])
	}
	return path
}

// forbid forbids the pixels of a path and those near to them.
func (g ground) forbid(path []int) {
	for x, row := range path {
		for y := max(row-Apart, 0); y <= min(row+Apart, g.h-1); y++ {
			g.price[x*g.h+y] = endless
		}
	}
}

// column returns what the cheapest paths cost from the pixels of a column on.
func (g ground) column(x int) []int {
	return g.rest[x*g.h : (x+1)*g.h]
}

// next returns the row in which the cheapest path goes on from a row of the column before, and what it costs from there on; of several the first one.
func next(column []int, from int) (row, cost int) {
	cost = endless
	for y := range beside(from, len(column)) {
		if n := column[y] + change(from, y); n < cost {
			row, cost = y, n
		}
	}
	return row, cost
}

// beside yields the rows next to a row of an image of h rows, and the row itself, in order.
func beside(row, h int) iter.Seq[int] {
	return func(yield func(y int) bool) {
		for y := max(row-1, 0); y <= min(row+1, h-1); y++ {
			if !yield(y) {
				return
			}
		}
	}
}
