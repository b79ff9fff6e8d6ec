package image_test

import (
	"cmp"
	"math"
	"slices"
	"testing"

	"custos/api"
	"custos/image"
)

// place returns where a pixel of an image of w by h pixels goes when it is turned.
func place(p api.Point, w, h, way int) api.Point {
	if way >= 4 {
		p.X = w - 1 - p.X
	}
	for range way % 4 {
		p = api.Point{X: h - 1 - p.Y, Y: p.X}
		w, h = h, w
	}
	return p
}

// placeRect returns where a rectangle goes.
func placeRect(r api.Rect, w, h, way int) api.Rect {
	a := place(api.Point{X: r.X, Y: r.Y}, w, h, way)
	b := place(api.Point{X: r.X + r.W - 1, Y: r.Y + r.H - 1}, w, h, way)
	return api.Rect{X: min(a.X, b.X), Y: min(a.Y, b.Y), W: max(a.X, b.X) - min(a.X, b.X) + 1, H: max(a.Y, b.Y) - min(a.Y, b.Y) + 1}
}

func TestTurnExamples(t *testing.T) {
	for way, want := range []string{"3 2\n##.\n#..\n", "2 3\n##\n.#\n..\n", "3 2\n..#\n.##\n", "2 3\n..\n#.\n##\n", "3 2\n.##\n..#\n", "2 3\n..\n.#\n##\n", "3 2\n#..\n##.\n", "2 3\n##\n#.\n..\n"} {
		if g, e := image.Turn(read(t, "3 2\n##.\n#..\n"), way); e != api.OK || show(g) != want {
			t.Errorf("Turn by %d: %q, %d", way, show(g), e)
		}
	}
	for _, way := range []int{-1, 8, 9, math.MinInt, math.MaxInt} {
		if x := ofInk(image.Turn(filled(2, 1), way)); x.e != api.ErrArg || !x.empty {
			t.Errorf("Turn by %d: %v", way, x)
		}
	}
	if g, e := image.Turn(api.Ink{W: 0, H: 3}, image.Right); e != api.OK || g.W != 3 || g.H != 0 {
		t.Error("Turn without pixels", g, e)
	}
}

func TestTurnPixels(t *testing.T) {
	for _, g := range scattered(40, 7) {
		for way := range 8 {
			out := must(t)(image.Turn(g, way))
			for i, p := range g.Pix {
				q := place(api.Point{X: i % g.W, Y: i / g.W}, g.W, g.H, way)
				if image.At(out, q.X, q.Y) != (p == 1) {
					t.Fatalf("Turn of %q by %d is %q", show(g), way, show(out))
				}
			}
		}
	}
}

func TestTurnsAreAGroup(t *testing.T) {
	g := read(t, "3 2\n##.\n#..\n")
	var all []string
	for way := range 8 {
		all = append(all, show(must(t)(image.Turn(g, way))))
	}
	for a := range 8 {
		var seen []string
		for b := range 8 {
			x := show(must(t)(image.Turn(must(t)(image.Turn(g, a)), b)))
			if !slices.Contains(all, x) || slices.Contains(seen, x) {
				t.Errorf("turned by %d, then by %d: %q", a, b, x)
			}
			seen = append(seen, x)
		}
	}
}

func TestTurnKeeps(t *testing.T) {
	l := scattered(60, 7)
	for i, g := range l {
		other := must(t)(image.Not(g))
		if i > 0 && l[i-1].W == g.W && l[i-1].H == g.H {
			other = l[i-1]
		}
		for way := range 8 {
			out := must(t)(image.Turn(g, way))
			n, _ := image.Count(g)
			if m, e := image.Count(out); e != api.OK || m != n {
				t.Errorf("Count is %d after %d", m, n)
			}
			d, _ := image.Distance(g, other)
			if m, e := image.Distance(out, must(t)(image.Turn(other, way))); e != api.OK || m != d {
				t.Errorf("Distance is %d after %d", m, d)
			}
			checkTurnedBoxes(t, g, out, way)
		}
	}
}

// checkTurnedBoxes compares the boxes and components of an image and of the turned one.
func checkTurnedBoxes(t *testing.T, g, out api.Ink, way int) {
	t.Helper()
	box, _ := image.Box(g)
	want := box
	if box.W > 0 {
		want = placeRect(box, g.W, g.H, way)
	}
	if b, e := image.Box(out); e != api.OK || b != want {
		t.Errorf("Box is %v, want %v", b, want)
	}
	for _, eight := range []bool{false, true} {
		before, _ := image.Components(g, eight)
		after, _ := image.Components(out, eight)
		var turned []image.Component
		for _, c := range before {
			x := image.Component{Box: placeRect(c.Box, g.W, g.H, way)}
			for _, p := range c.Pixels {
				x.Pixels = append(x.Pixels, place(p, g.W, g.H, way))
			}
			slices.SortFunc(x.Pixels, inReadingOrder)
			turned = append(turned, x)
		}
		slices.SortFunc(turned, func(a, b image.Component) int { return inReadingOrder(a.Pixels[0], b.Pixels[0]) })
		if !slices.EqualFunc(turned, after, sameComponent) {
			t.Errorf("components of %q turned by %d: %v, want %v", show(g), way, after, turned)
		}
	}
}

func inReadingOrder(p, q api.Point) int {
	return cmp.Or(cmp.Compare(p.Y, q.Y), cmp.Compare(p.X, q.X))
}

func sameComponent(a, b image.Component) bool {
	return a.Box == b.Box && slices.Equal(a.Pixels, b.Pixels)
}
