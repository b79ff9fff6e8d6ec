package image_test

import (
	"math"
	"testing"

	"custos/api"
	"custos/image"
)

// dilated is Dilate by its definition.
func dilated(g api.Ink, w, h int) api.Ink {
	return byDefinition(g.W, g.H, func(x, y int) bool {
		for dy := range h {
			for dx := range w {
				if x+dx < g.W && y+dy < g.H && g.Pix[(y+dy)*g.W+x+dx] == 1 {
					return true
				}
			}
		}
		return false
	})
}

// eroded is Erode by its definition.
func eroded(g api.Ink, w, h int) api.Ink {
	return byDefinition(g.W, g.H, func(x, y int) bool {
		for dy := range h {
			for dx := range w {
				if x-dx >= 0 && y-dy >= 0 && g.Pix[(y-dy)*g.W+x-dx] == 0 {
					return false
				}
			}
		}
		return true
	})
}

func TestBrushExamples(t *testing.T) {
	g := read(t, "5 4\n.....\n.....\n...#.\n.....\n")
	if x, e := image.Dilate(g, 2, 1); e != api.OK || show(x) != "5 4\n.....\n.....\n..##.\n.....\n" {
		t.Error("Dilate", show(x), e)
	}
	if x, e := image.Erode(read(t, "7 1\n.#####.\n"), 2, 1); e != api.OK || show(x) != "7 1\n..####.\n" {
		t.Error("Erode", show(x), e)
	}
	if x, e := image.Erode(read(t, "6 1\n#####.\n"), 2, 1); e != api.OK || show(x) != "6 1\n#####.\n" {
		t.Error("Erode at the edge", show(x), e)
	}
}

func TestBrushesByDefinition(t *testing.T) {
	for _, g := range scattered(60, 9) {
		for _, p := range []api.Point{{X: 1, Y: 1}, {X: 2, Y: 1}, {X: 1, Y: 2}, {X: 3, Y: 2}, {X: 2, Y: 5}, {X: 64, Y: 1}, {X: 64, Y: 64}} {
			if x, e := image.Dilate(g, p.X, p.Y); e != api.OK || !same(x, dilated(g, p.X, p.Y)) {
				t.Errorf("Dilate of %q by %v: %q, %d", show(g), p, show(x), e)
			}
			if x, e := image.Erode(g, p.X, p.Y); e != api.OK || !same(x, eroded(g, p.X, p.Y)) {
				t.Errorf("Erode of %q by %v: %q, %d", show(g), p, show(x), e)
			}
		}
	}
}

func TestGreatestBrush(t *testing.T) {
	g := byDefinition(640, 640, func(x, y int) bool { return x == 100 && y == 200 })
	if n, e := image.Count(must(t)(image.Dilate(g, 64, 64))); e != api.OK || n != 64*64 {
		t.Error("Dilate by the greatest brush", n, e)
	}
	paper := must(t)(image.Not(g))
	if n, e := image.Count(must(t)(image.Erode(paper, 64, 64))); e != api.OK || n != 640*640-64*64 {
		t.Error("Erode by the greatest brush", n, e)
	}
}

func TestBrushErrors(t *testing.T) {
	for _, p := range []api.Point{{X: 0, Y: 1}, {X: 1, Y: 0}, {X: 65, Y: 1}, {X: 1, Y: 65}, {X: -1, Y: 1}, {X: math.MaxInt, Y: 1}, {X: 1, Y: math.MinInt}} {
		if x := ofInk(image.Dilate(filled(2, 2), p.X, p.Y)); x.e != api.ErrArg || !x.empty {
			t.Error("Dilate by", p, x)
		}
		if x := ofInk(image.Erode(filled(2, 2), p.X, p.Y)); x.e != api.ErrArg || !x.empty {
			t.Error("Erode by", p, x)
		}
	}
}

// TestBrushesBelongTogether goes through all pairs of images with 3 by 2 pixels.
func TestBrushesBelongTogether(t *testing.T) {
	for _, p := range []api.Point{{X: 1, Y: 1}, {X: 2, Y: 1}, {X: 2, Y: 2}, {X: 3, Y: 1}} {
		for i := range 64 {
			a := small(3, 2, i)
			grown := must(t)(image.Dilate(a, p.X, p.Y))
			if again := must(t)(image.Dilate(must(t)(image.Erode(grown, p.X, p.Y)), p.X, p.Y)); !same(again, grown) {
				t.Errorf("Dilate, Erode, Dilate of %q by %v: %q", show(a), p, show(again))
			}
			for j := range 64 {
				b := small(3, 2, j)
				if within(grown, b) != within(a, must(t)(image.Erode(b, p.X, p.Y))) {
					t.Errorf("%q and %q, by %v", show(a), show(b), p)
				}
			}
		}
	}
}
