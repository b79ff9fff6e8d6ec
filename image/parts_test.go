package image_test

import (
	"math"
	"testing"

	"custos/api"
	"custos/image"
)

func TestCrop(t *testing.T) {
	g := read(t, "4 3\n#.##\n.#..\n##.#\n")
	for _, x := range []struct {
		r    api.Rect
		want string
	}{
		{api.Rect{W: 4, H: 3}, "4 3\n#.##\n.#..\n##.#\n"},
		{api.Rect{X: 1, Y: 1, W: 2, H: 2}, "2 2\n#.\n#.\n"},
		{api.Rect{X: 3, Y: 2, W: 1, H: 1}, "1 1\n#\n"},
		{api.Rect{X: 4, Y: 3}, "0 0\n"},
		{api.Rect{X: 4, Y: 0, W: 0, H: 2}, "0 2\n\n\n"},
		{api.Rect{X: 1, Y: 3, W: 3, H: 0}, "3 0\n"},
	} {
		if part, e := image.Crop(g, x.r); e != api.OK || show(part) != x.want {
			t.Errorf("Crop(%v): %q, %d", x.r, show(part), e)
		}
	}
	for _, r := range []api.Rect{{X: -1, W: 1, H: 1}, {Y: -1, W: 1, H: 1}, {W: -1, H: 1}, {W: 1, H: -1}, {X: 3, W: 2, H: 1}, {Y: 2, W: 1, H: 2}, {X: 5}, {Y: 4}, {W: 5}, {H: 4}, {X: math.MaxInt, W: math.MaxInt}, {X: 1, W: math.MaxInt}, {Y: math.MaxInt, H: 2}, {X: math.MinInt, W: math.MinInt}} {
		if x := ofInk(image.Crop(g, r)); x.e != api.ErrArg || !x.empty {
			t.Errorf("Crop(%v): %v", r, x)
		}
	}
}

func TestPaste(t *testing.T) {
	g := read(t, "4 3\n####\n....\n####\n")
	for _, x := range []struct {
		part string
		x, y int
		want string
	}{
		{"2 2\n.#\n#.\n", 0, 0, "4 3\n.###\n#...\n####\n"},
		{"2 2\n.#\n#.\n", 2, 1, "4 3\n####\n...#\n###.\n"},
		{"0 0\n", 4, 3, "4 3\n####\n....\n####\n"},
		{"4 3\n....\n....\n....\n", 0, 0, "4 3\n....\n....\n....\n"},
	} {
		if out, e := image.Paste(g, read(t, x.part), x.x, x.y); e != api.OK || show(out) != x.want {
			t.Errorf("Paste of %q at %d, %d: %q, %d", x.part, x.x, x.y, show(out), e)
		}
	}
	for _, p := range []api.Point{{X: -1}, {Y: -1}, {X: 3}, {Y: 2}, {X: math.MaxInt}, {Y: math.MaxInt}, {X: math.MinInt}} {
		if x := ofInk(image.Paste(g, filled(2, 2), p.X, p.Y)); x.e != api.ErrArg || !x.empty {
			t.Errorf("Paste at %v: %v", p, x)
		}
	}
	if x := ofInk(image.Paste(filled(1, 1), g, 0, 0)); x.e != api.ErrArg || !x.empty {
		t.Error("Paste of what is too great", x)
	}
}

func TestCropOfPaste(t *testing.T) {
	for _, part := range scattered(50, 6) {
		g := must(t)(image.Paste(filled(10, 10), part, 3, 4))
		if back := must(t)(image.Crop(g, api.Rect{X: 3, Y: 4, W: part.W, H: part.H})); !same(back, part) {
			t.Errorf("%q is %q when it is cut out", show(part), show(back))
		}
	}
}

func TestCombinations(t *testing.T) {
	a, b := read(t, "2 2\n##\n..\n"), read(t, "2 2\n#.\n#.\n")
	for _, x := range []struct {
		name string
		call func(a, b api.Ink) (api.Ink, api.Errno)
		want string
	}{{"Or", image.Or, "2 2\n##\n#.\n"}, {"And", image.And, "2 2\n#.\n..\n"}, {"Less", image.Less, "2 2\n.#\n..\n"}} {
		if g, e := x.call(a, b); e != api.OK || show(g) != x.want {
			t.Errorf("%s: %q, %d", x.name, show(g), e)
		}
		if g, e := x.call(api.Ink{W: 0, H: 3}, api.Ink{W: 0, H: 3}); e != api.OK || !same(g, api.Ink{W: 0, H: 3}) {
			t.Errorf("%s without pixels: %v, %d", x.name, g, e)
		}
		for _, other := range []api.Ink{filled(4, 1), filled(2, 3), filled(3, 2), filled(0, 2)} {
			if y := ofInk(x.call(a, other)); y.e != api.ErrSize || !y.empty {
				t.Errorf("%s of other sides: %v", x.name, y)
			}
		}
	}
}

func TestNot(t *testing.T) {
	if g, e := image.Not(read(t, "3 2\n#.#\n.#.\n")); e != api.OK || show(g) != "3 2\n.#.\n#.#\n" {
		t.Error("Not", show(g), e)
	}
	if g, e := image.Not(api.Ink{W: 2}); e != api.OK || !same(g, api.Ink{W: 2}) {
		t.Error("Not without pixels", g, e)
	}
}
