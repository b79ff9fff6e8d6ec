package clean_test

import (
	"bytes"
	"math"
	"math/rand"
	"testing"

	"custos/api"
	"custos/clean"
	"custos/image"
)

func TestConstants(t *testing.T) {
	if clean.MaxSkew != 3 || clean.Speck != 2 {
		t.Error("a constant is wrong")
	}
}

func TestClean(t *testing.T) {
	page := ruled(130, 12, 2, 8)
	dirty := must(t)(image.Paste(page, ruled(1, 1, 0), 60, 5))
	for _, k := range inOrder {
		g := grey(t, must(t)(clean.Skew(dirty, k)), 10, 200)
		out, r, e := clean.Clean(g)
		if e != api.OK || !same(out, page) || r != (api.Recipe{Threshold: 105, Skew: k, Speck: 2}) {
			t.Errorf("Clean of what is skewed by %d: %v, %d", k, r, e)
		}
	}
}

// TestCleanKeepsPairs has two pixels that touch at a corner, which are no speck, and become none by a skew that parts them.
func TestCleanKeepsPairs(t *testing.T) {
	page := ruled(130, 12, 2, 8)
	for _, x := range []int{10, 63, 64} {
		pair := must(t)(image.Paste(page, read(t, "2 2\n#.\n.#\n"), x, 4))
		for _, k := range inOrder {
			out, r, e := clean.Clean(grey(t, must(t)(clean.Skew(pair, k)), 0, 255))
			if e != api.OK || !same(out, pair) || r.Skew != k {
				t.Errorf("Clean of a pair in column %d, skewed by %d: %v, %d", x, k, r, e)
			}
		}
	}
}

func TestCleanWithoutLevels(t *testing.T) {
	for _, x := range []struct {
		g    api.Grey
		want api.Ink
	}{
		{api.Grey{}, api.Ink{}},
		{api.Grey{W: 640}, paper(640, 0)},
		{api.Grey{H: 640}, paper(0, 640)},
		{grey(t, paper(70, 5), 0, 255), paper(70, 5)},
		{grey(t, paper(70, 5), 0, 128), paper(70, 5)},
		{grey(t, paper(70, 5), 0, 127), ruled(70, 5, 0, 1, 2, 3, 4)},
		{grey(t, paper(640, 640), 255, 255), paper(640, 640)},
	} {
		out, r, e := clean.Clean(x.g)
		if e != api.OK || !same(out, x.want) || r != (api.Recipe{Threshold: 128, Skew: 0, Speck: 2}) {
			t.Errorf("Clean of %d by %d: %v, %d", x.g.W, x.g.H, r, e)
		}
	}
}

// TestSteps compares Clean and Apply with the steps of which they are made.
func TestSteps(t *testing.T) {
	r := rand.New(rand.NewSource(4))
	for range 120 {
		g := api.Grey{W: r.Intn(200), H: r.Intn(14)}
		few := 1 + r.Intn(4)
		for range g.W * g.H {
			g.Pix = append(g.Pix, byte(40*r.Intn(few)+r.Intn(3)))
		}
		level, _ := clean.Level(g)
		ink := must(t)(image.Threshold(g, level))
		k, _ := clean.FindSkew(ink)
		want := must(t)(image.Despeckle(must(t)(clean.Unskew(ink, k)), 2))
		out, recipe, e := clean.Clean(g)
		if e != api.OK || !same(out, want) || recipe != (api.Recipe{Threshold: level, Skew: k, Speck: 2}) {
			t.Errorf("Clean of %d by %d: %v, %d", g.W, g.H, recipe, e)
		}
		if again, e := clean.Apply(g, recipe); e != api.OK || !same(again, out) {
			t.Errorf("Apply of %v: %d", recipe, e)
		}
		checkApply(t, g, api.Recipe{Threshold: r.Intn(257), Skew: r.Intn(7) - 3, Speck: r.Intn(5)})
	}
}

// checkApply compares Apply with its steps.
func checkApply(t *testing.T, g api.Grey, r api.Recipe) {
	t.Helper()
	straight, want := clean.Unskew(must(t)(image.Threshold(g, r.Threshold)), r.Skew)
	out, e := clean.Apply(g, r)
	if e != want {
		t.Fatalf("Apply of %v to %d by %d: error %d, want %d", r, g.W, g.H, e, want)
	}
	if e != api.OK {
		if e != api.ErrSize || !zero(out) {
			t.Errorf("Apply of %v to %d by %d: %d, and an image", r, g.W, g.H, e)
		}
		return
	}
	if !same(out, must(t)(image.Despeckle(straight, r.Speck))) {
		t.Errorf("Apply of %v to %d by %d: another image", r, g.W, g.H)
	}
}

func TestApplySpecks(t *testing.T) {
	ink := read(t, "7 3\n##...#.\n.......\n#.....#\n")
	for speck, want := range map[int]string{0: show(ink), 1: show(ink), 2: "7 3\n##.....\n.......\n.......\n", 3: show(paper(7, 3)), math.MaxInt: show(paper(7, 3))} {
		if out, e := clean.Apply(grey(t, ink, 0, 255), api.Recipe{Threshold: 128, Speck: speck}); e != api.OK || show(out) != want {
			t.Errorf("Apply with specks of %d: %q, %d", speck, show(out), e)
		}
	}
}

func TestApplyThresholds(t *testing.T) {
	g := api.Grey{W: 4, H: 1, Pix: []byte{0, 100, 101, 255}}
	for level, want := range map[int]string{0: "4 1\n....\n", 1: "4 1\n#...\n", 100: "4 1\n#...\n", 101: "4 1\n##..\n", 255: "4 1\n###.\n", 256: "4 1\n####\n"} {
		if out, e := clean.Apply(g, api.Recipe{Threshold: level}); e != api.OK || show(out) != want {
			t.Errorf("Apply with the threshold %d: %q, %d", level, show(out), e)
		}
	}
}

func TestApplyErrors(t *testing.T) {
	low := grey(t, paper(640, 28), 0, 255)
	for _, x := range []struct {
		r    api.Recipe
		want api.Errno
	}{
		{api.Recipe{Threshold: -1}, api.ErrArg},
		{api.Recipe{Threshold: 257}, api.ErrArg},
		{api.Recipe{Skew: 4}, api.ErrArg},
		{api.Recipe{Skew: -4}, api.ErrArg},
		{api.Recipe{Speck: -1}, api.ErrArg},
		{api.Recipe{Threshold: math.MinInt, Skew: math.MinInt, Speck: math.MinInt}, api.ErrArg},
		{api.Recipe{Threshold: math.MaxInt, Skew: math.MaxInt, Speck: math.MaxInt}, api.ErrArg},
		{api.Recipe{Skew: 3}, api.ErrSize},
		{api.Recipe{Skew: -3}, api.ErrSize},
		{api.Recipe{Threshold: 256, Skew: 3, Speck: math.MaxInt}, api.ErrSize},
		{api.Recipe{Skew: 3, Speck: -1}, api.ErrArg},
		{api.Recipe{Threshold: 257, Skew: 3}, api.ErrArg},
		{api.Recipe{Skew: 2}, api.OK},
	} {
		out, e := clean.Apply(low, x.r)
		if e != x.want || e != api.OK && !zero(out) {
			t.Errorf("Apply of %v: %d, want %d", x.r, e, x.want)
		}
	}
}

// TestInvalidImages gives images that are not valid to all functions, with other arguments that are wrong, too.
func TestInvalidImages(t *testing.T) {
	for _, g := range invalid() {
		want := image.Check(g)
		if out, e := clean.Grey(g, -1, 256); e != want || len(out.Pix) != 0 || out.W != 0 || out.H != 0 {
			t.Error("Grey", e)
		}
		if out, e := clean.Skew(g, 9); e != want || !zero(out) {
			t.Error("Skew", e)
		}
		if out, e := clean.Unskew(g, 9); e != want || !zero(out) {
			t.Error("Unskew", e)
		}
		if n, e := clean.Full(g); e != want || n != 0 {
			t.Error("Full", n, e)
		}
		if k, e := clean.FindSkew(g); e != want || k != 0 {
			t.Error("FindSkew", k, e)
		}
	}
	for _, g := range invalidGrey() {
		if out, r, e := clean.Clean(g); e != api.ErrSize || !zero(out) || r != (api.Recipe{}) {
			t.Error("Clean", r, e)
		}
		if out, e := clean.Apply(g, api.Recipe{Threshold: -1, Skew: 4, Speck: -1}); e != api.ErrSize || !zero(out) {
			t.Error("Apply", e)
		}
	}
}

// TestFresh changes results: arguments must not change with them, nor by the call.
func TestFresh(t *testing.T) {
	all := api.Recipe{Threshold: 1}
	calls := map[string]func(g api.Ink) []byte{
		"Grey":   func(g api.Ink) []byte { return grey(t, g, 0, 1).Pix },
		"Skew":   func(g api.Ink) []byte { return must(t)(clean.Skew(g, 0)).Pix },
		"Unskew": func(g api.Ink) []byte { return must(t)(clean.Unskew(g, 0)).Pix },
		"Clean": func(g api.Ink) []byte {
			out, _, e := clean.Clean(api.Grey(g))
			return must(t)(out, e).Pix
		},
		"Apply": func(g api.Ink) []byte { return must(t)(clean.Apply(api.Grey(g), all)).Pix },
	}
	for name, call := range calls {
		g := read(t, "3 3\n##.\n.##\n#.#\n")
		before := bytes.Clone(g.Pix)
		pix := call(g)
		if len(pix) != len(before) {
			t.Errorf("%s: %d pixels", name, len(pix))
		}
		for i := range pix {
			pix[i] = 7
		}
		if !bytes.Equal(g.Pix, before) {
			t.Errorf("%s: an argument has changed", name)
		}
	}
}

// lined returns a page of full rows, and one with specks, which are far enough from all other ink.
func lined(r *rand.Rand, w, h int) (page, dirty api.Ink) {
	page = paper(w, h)
	for y := r.Intn(h - 1); y < h; y += 3 + r.Intn(8) {
		page = join(page, ruled(w, h, y))
	}
	dirty = join(page, paper(w, h))
	for range r.Intn(60) {
		x, y := r.Intn(w), r.Intn(h)
		if !crowded(dirty, x, y) {
			dirty.Pix[y*w+x] = 1
		}
	}
	return page, dirty
}

// join returns the ink of two images with the same sides.
func join(a, b api.Ink) api.Ink {
	out := paper(a.W, a.H)
	for i := range out.Pix {
		out.Pix[i] = a.Pix[i] | b.Pix[i]
	}
	return out
}

// crowded reports whether there is ink at a pixel, or around it.
func crowded(g api.Ink, x, y int) bool {
	for v := max(0, y-1); v <= min(g.H-1, y+1); v++ {
		for u := max(0, x-1); u <= min(g.W-1, x+1); u++ {
			if g.Pix[v*g.W+u] == 1 {
				return true
			}
		}
	}
	return false
}

// speckled gives each pixel a level of its own: ink from 0 to 60, paper from 195 to 255.
func speckled(r *rand.Rand, ink api.Ink) api.Grey {
	g := api.Grey{W: ink.W, H: ink.H}
	for _, p := range ink.Pix {
		g.Pix = append(g.Pix, byte(195*(1-int(p))+r.Intn(61)))
	}
	return g
}

func TestPagesAreFoundAgain(t *testing.T) {
	r := rand.New(rand.NewSource(5))
	for range 60 {
		page, dirty := lined(r, 65+r.Intn(200), 2+r.Intn(60))
		for _, k := range inOrder {
			g := speckled(r, must(t)(clean.Skew(dirty, k)))
			out, recipe, e := clean.Clean(g)
			if e != api.OK || !same(out, page) || recipe.Skew != k || recipe.Speck != 2 || recipe.Threshold <= 60 || recipe.Threshold > 195 {
				t.Fatalf("%q, skewed by %d: %q, %v, %d", show(dirty), k, show(out), recipe, e)
			}
			if again, e := clean.Apply(g, recipe); e != api.OK || !same(again, page) {
				t.Errorf("Apply of %v: %d", recipe, e)
			}
		}
	}
}

// TestLeastPagesAreFoundAgain has the narrowest pages, with one line at the edge or three that are as near as they may be.
func TestLeastPagesAreFoundAgain(t *testing.T) {
	r := rand.New(rand.NewSource(6))
	for _, page := range []api.Ink{ruled(65, 2, 0), ruled(65, 2, 1), ruled(65, 7, 0, 3, 6), ruled(66, 8, 1, 4, 7), ruled(640, 4, 0, 3)} {
		for _, k := range inOrder {
			out, recipe, e := clean.Clean(speckled(r, must(t)(clean.Skew(page, k))))
			if e != api.OK || !same(out, page) || recipe.Skew != k {
				t.Errorf("%d by %d, skewed by %d: %v, %d", page.W, page.H, k, recipe, e)
			}
		}
	}
}
