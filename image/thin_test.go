package image_test

import (
	"bytes"
	"testing"

	"custos/api"
	"custos/image"
)

// leaves reports whether a pixel is simple and not an end, by their definitions.
func leaves(g api.Ink, p api.Point) bool {
	var eight []api.Point
	four := 0
	for _, q := range inkOf(g) {
		if connected(p, q, true) {
			eight = append(eight, q)
		}
		if connected(p, q, false) {
			four++
		}
	}
	return four < 4 && len(parts(eight, true)) == 1 && len(eight) != 1
}

// round goes through all pixels once, and reports whether it changes something.
func round(g api.Ink) bool {
	changed := false
	for _, p := range inkOf(g) {
		if leaves(g, p) {
			g.Pix[p.Y*g.W+p.X] = 0
			changed = true
		}
	}
	return changed
}

// thinned is Thin by its definition; it returns the number of rounds that change something, too.
func thinned(g api.Ink) (api.Ink, int) {
	g.Pix = bytes.Clone(g.Pix)
	n := 0
	for round(g) {
		n++
	}
	return g, n
}

// checkThin compares Thin with its definition, and returns the number of rounds.
func checkThin(t *testing.T, g api.Ink) int {
	t.Helper()
	want, n := thinned(g)
	if out, e := image.Thin(g); e != api.OK || !same(out, want) {
		t.Errorf("Thin(%q): %q, %d, want %q", show(g), show(out), e, show(want))
	}
	return n
}

func TestThinExamples(t *testing.T) {
	for _, x := range []struct{ a, b string }{
		{"0 0\n", "0 0\n"},
		{"2 1\n..\n", "2 1\n..\n"},
		{"1 1\n#\n", "1 1\n#\n"},
		{"2 3\n##\n##\n##\n", "2 3\n..\n..\n##\n"},
		{"2 1\n##\n", "2 1\n##\n"},
		{"2 2\n##\n##\n", "2 2\n..\n##\n"},
		{"3 3\n###\n#.#\n###\n", "3 3\n.#.\n#.#\n.#.\n"},
		{"3 3\n.#.\n###\n.#.\n", "3 3\n...\n..#\n.#.\n"},
	} {
		if y, e := image.Thin(read(t, x.a)); e != api.OK || show(y) != x.b {
			t.Errorf("Thin(%q): %q, %d", x.a, show(y), e)
		}
	}
}

func TestThinByDefinition(t *testing.T) {
	for i := range 1 << 12 {
		checkThin(t, small(4, 3, i))
	}
	for _, g := range scattered(100, 12) {
		checkThin(t, g)
	}
}

// TestThinRounds has images in which a pixel goes only when one that stands later in reading order has gone.
func TestThinRounds(t *testing.T) {
	for _, x := range []struct {
		text   string
		rounds int
	}{
		{"8 9\n###.#.##\n####.#.#\n.#.#.###\n.####.#.\n.#######\n##.#####\n###.####\n######.#\n###.####\n", 4},
		{"9 10\n##.######\n.########\n######.##\n######.##\n#.##.###.\n#####.###\n#######.#\n##.######\n#.#.#.##.\n#####..#.\n", 5},
	} {
		if n := checkThin(t, read(t, x.text)); n != x.rounds {
			t.Errorf("%q is thin after %d rounds", x.text, n)
		}
	}
}

func TestThinKeeps(t *testing.T) {
	for _, g := range scattered(150, 20) {
		out := must(t)(image.Thin(g))
		if !within(out, g) {
			t.Errorf("Thin(%q) adds ink: %q", show(g), show(out))
		}
		before, _ := image.Components(g, true)
		if after, e := image.Components(out, true); e != api.OK || len(after) != len(before) {
			t.Errorf("Thin(%q) has %d components, not %d", show(g), len(after), len(before))
		}
		if again := must(t)(image.Thin(out)); !same(again, out) {
			t.Errorf("Thin of the thin image %q: %q", show(out), show(again))
		}
	}
}

func TestThinOfGreatImages(t *testing.T) {
	if n, e := image.Count(must(t)(image.Thin(filled(640, 640)))); e != api.OK || n != 640 {
		t.Error("Thin of the greatest image", n, e)
	}
	holes := byDefinition(640, 640, func(x, y int) bool { return x%7 != 3 || y%5 != 2 })
	out := must(t)(image.Thin(holes))
	if again := must(t)(image.Thin(out)); !same(again, out) {
		t.Error("Thin of a great image with holes is not thin")
	}
}
