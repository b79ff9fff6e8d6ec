package image_test

import (
	"math"
	"slices"
	"testing"

	"custos/api"
	"custos/image"
)

// connected reports whether two pixels are neighbours.
func connected(p, q api.Point, eight bool) bool {
	dx, dy := max(p.X-q.X, q.X-p.X), max(p.Y-q.Y, q.Y-p.Y)
	if eight {
		return max(dx, dy) == 1
	}
	return dx+dy == 1
}

// inkOf returns the ink pixels of an image in reading order.
func inkOf(g api.Ink) []api.Point {
	var l []api.Point
	for i, p := range g.Pix {
		if p == 1 {
			l = append(l, api.Point{X: i % g.W, Y: i / g.W})
		}
	}
	return l
}

// parts divides points to components, by joining groups until none are left that touch.
func parts(l []api.Point, eight bool) [][]api.Point {
	group := make([]int, len(l))
	for i := range group {
		group[i] = i
	}
	for changed := true; changed; {
		changed = false
		for i, p := range l {
			for j, q := range l {
				if connected(p, q, eight) && group[i] < group[j] {
					group[j], changed = group[i], true
				}
			}
		}
	}
	var out [][]api.Point
	for i := range l {
		if group[i] == i {
			var part []api.Point
			for j, q := range l {
				if group[j] == i {
					part = append(part, q)
				}
			}
			out = append(out, part)
		}
	}
	return out
}

// boxOf returns the least rectangle that contains points.
func boxOf(l []api.Point) api.Rect {
	a, b := l[0], l[0]
	for _, p := range l {
		a = api.Point{X: min(a.X, p.X), Y: min(a.Y, p.Y)}
		b = api.Point{X: max(b.X, p.X), Y: max(b.Y, p.Y)}
	}
	return api.Rect{X: a.X, Y: a.Y, W: b.X - a.X + 1, H: b.Y - a.Y + 1}
}

func TestComponentsExample(t *testing.T) {
	g := read(t, "3 2\n#.#\n.#.\n")
	eight, e := image.Components(g, true)
	if e != api.OK || len(eight) != 1 || !sameComponent(eight[0], image.Component{Box: api.Rect{W: 3, H: 2}, Pixels: []api.Point{{X: 0, Y: 0}, {X: 2, Y: 0}, {X: 1, Y: 1}}}) {
		t.Error("eight neighbours", eight, e)
	}
	four, e := image.Components(g, false)
	if e != api.OK || len(four) != 3 || four[1].Box != (api.Rect{X: 2, W: 1, H: 1}) {
		t.Error("four neighbours", four, e)
	}
}

func TestComponentsByDefinition(t *testing.T) {
	for _, g := range scattered(150, 8) {
		for _, eight := range []bool{false, true} {
			var want []image.Component
			for _, part := range parts(inkOf(g), eight) {
				want = append(want, image.Component{Box: boxOf(part), Pixels: part})
			}
			if l, e := image.Components(g, eight); e != api.OK || !slices.EqualFunc(l, want, sameComponent) {
				t.Errorf("Components(%q, %v): %v, %d, want %v", show(g), eight, l, e, want)
			}
		}
	}
}

// TestComponentsMemory appends to the pixels of one component, which must not reach those of another one.
func TestComponentsMemory(t *testing.T) {
	l, _ := image.Components(read(t, "3 1\n#.#\n"), true)
	_ = append(l[0].Pixels, api.Point{X: 7, Y: 7})
	l[0].Pixels[0] = api.Point{X: 9, Y: 9}
	if l[1].Pixels[0] != (api.Point{X: 2}) {
		t.Error("components share memory", l)
	}
}

func TestComponentsOfGreatImages(t *testing.T) {
	if l, e := image.Components(filled(640, 640), false); e != api.OK || len(l) != 1 || len(l[0].Pixels) != 640*640 {
		t.Error("the greatest component", len(l), e)
	}
	chequered := byDefinition(640, 640, func(x, y int) bool { return (x+y)%2 == 0 })
	if l, e := image.Components(chequered, false); e != api.OK || len(l) != 640*320 {
		t.Error("the most components", len(l), e)
	}
	if l, e := image.Components(chequered, true); e != api.OK || len(l) != 1 {
		t.Error("diagonal neighbours", len(l), e)
	}
}

func TestDespeckle(t *testing.T) {
	g := read(t, "3 2\n#.#\n.#.\n")
	for least, want := range map[int]string{math.MinInt: show(g), 0: show(g), 1: show(g), 3: show(g), 4: "3 2\n...\n...\n", math.MaxInt: "3 2\n...\n...\n"} {
		if out, e := image.Despeckle(g, least); e != api.OK || show(out) != want {
			t.Errorf("Despeckle by %d: %q, %d", least, show(out), e)
		}
	}
	for _, x := range []struct {
		least int
		want  string
	}{{2, "6 3\n##....\n......\n....##\n"}, {3, "6 3\n......\n......\n......\n"}} {
		if out, e := image.Despeckle(read(t, "6 3\n##...#\n......\n#...##\n"), x.least); e != api.OK || show(out) != x.want {
			t.Errorf("Despeckle by %d: %q, %d", x.least, show(out), e)
		}
	}
}

func TestDespeckleTwice(t *testing.T) {
	for _, g := range scattered(60, 9) {
		for least := range 6 {
			once := must(t)(image.Despeckle(g, least))
			if twice := must(t)(image.Despeckle(once, least)); !same(once, twice) {
				t.Errorf("Despeckle of %q by %d: %q, then %q", show(g), least, show(once), show(twice))
			}
		}
	}
}
