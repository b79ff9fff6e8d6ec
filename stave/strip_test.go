package stave_test

import (
	"bytes"
	"math"
	"math/rand"
	"testing"

	"custos/api"
	"custos/image"
	"custos/stave"
)

// rectified is Rectify by its definition.
func rectified(g api.Ink, s api.Stave, up, down int) api.Ink {
	out := plain(g.W, up+down+1, 0)
	for y := range out.H {
		for x := range out.W {
			if image.At(g, x, s.Lines[4][x]-up+y) {
				out.Pix[y*out.W+x] = 1
			}
		}
	}
	return out
}

// restored is Restore by its definition.
func restored(g, strip api.Ink, s api.Stave, up int) api.Ink {
	out := plain(g.W, g.H, 0)
	for y := range g.H {
		for x := range g.W {
			out.Pix[y*g.W+x] = g.Pix[y*g.W+x]
			if v := y - s.Lines[4][x] + up; v >= 0 && v < strip.H {
				out.Pix[y*g.W+x] = strip.Pix[v*strip.W+x]
			}
		}
	}
	return out
}

// stepped returns an image of 4 columns and 8 rows, and a stave of it whose bottom line goes from row 6 to row 7.
func stepped(t *testing.T) (api.Ink, api.Stave) {
	t.Helper()
	g := read(t, "4 8\n....\n####\n....\n.##.\n##..\n#..#\n##..\n.###\n")
	return g, api.Stave{Lines: [][]int{{0, 0, 0, 0}, {1, 1, 1, 1}, {3, 3, 3, 3}, {4, 4, 5, 5}, {6, 6, 7, 7}}}
}

func TestRectify(t *testing.T) {
	g, s := stepped(t)
	for _, x := range []struct {
		up, down int
		want     string
	}{
		{0, 0, "4 1\n####\n"},
		{2, 0, "4 3\n##.#\n#...\n####\n"},
		{2, 1, "4 4\n##.#\n#...\n####\n.#..\n"},
		{0, 2, "4 3\n####\n.#..\n....\n"},
		{8, 0, "4 9\n....\n....\n..##\n##..\n..#.\n.#..\n##.#\n#...\n####\n"},
	} {
		if out, e := stave.Rectify(g, s, x.up, x.down); e != api.OK || show(out) != x.want {
			t.Errorf("Rectify with %d and %d: %q, %d", x.up, x.down, show(out), e)
		}
	}
}

func TestRestore(t *testing.T) {
	g, s := stepped(t)
	for _, x := range []struct {
		strip string
		up    int
		want  string
	}{
		{"4 1\n....\n", 0, "4 8\n....\n####\n....\n.##.\n##..\n#..#\n....\n.#..\n"},
		{"4 2\n####\n....\n", 1, "4 8\n....\n####\n....\n.##.\n##..\n##.#\n..##\n.#..\n"},
		{"4 2\n....\n####\n", 0, "4 8\n....\n####\n....\n.##.\n##..\n#..#\n....\n##..\n"},
		{"4 3\n....\n####\n....\n", 0, "4 8\n....\n####\n....\n.##.\n##..\n#..#\n....\n##..\n"},
		{"4 9\n####\n####\n####\n####\n####\n####\n####\n####\n####\n", 8, "4 8\n####\n####\n####\n####\n####\n####\n####\n.###\n"},
	} {
		if out, e := stave.Restore(g, read(t, x.strip), s, x.up); e != api.OK || show(out) != x.want {
			t.Errorf("Restore of %q, %d: %q, %d", x.strip, x.up, show(out), e)
		}
	}
}

func TestStripsByDefinition(t *testing.T) {
	r := rand.New(rand.NewSource(10))
	for range 300 {
		g := scattered(r, 1+r.Intn(12), 5+r.Intn(20), r.Intn(11))
		s := randomStave(r, g.W, g.H)
		up, down := r.Intn(30), r.Intn(30)
		strip, e := stave.Rectify(g, s, up, down)
		if e != api.OK || !same(strip, rectified(g, s, up, down)) {
			t.Errorf("Rectify of %q by %v with %d and %d: %q, %d", show(g), s, up, down, show(strip), e)
		}
		if back := must(t)(stave.Restore(g, strip, s, up)); !same(back, g) {
			t.Errorf("Restore of what Rectify cut out of %q: %q", show(g), show(back))
		}
		other := scattered(r, g.W, strip.H, r.Intn(11))
		out, e := stave.Restore(g, other, s, up)
		if e != api.OK || !same(out, restored(g, other, s, up)) {
			t.Errorf("Restore of %q into %q by %v with %d: %q, %d", show(other), show(g), s, up, show(out), e)
		}
		if back := must(t)(stave.Restore(out, strip, s, up)); !same(back, g) {
			t.Errorf("Restore of what was cut out of %q: %q", show(g), show(back))
		}
	}
}

// TestGreatestStrips has strips that reach far out of the image.
func TestGreatestStrips(t *testing.T) {
	g, s := stepped(t)
	for _, up := range []int{0, 1, 7, 300, 638, 639} {
		strip, e := stave.Rectify(g, s, up, 639-up)
		if e != api.OK || !same(strip, rectified(g, s, up, 639-up)) {
			t.Errorf("Rectify with %d: %d", up, e)
		}
		if back := must(t)(stave.Restore(g, strip, s, up)); !same(back, g) {
			t.Errorf("Restore with %d: %q", up, show(back))
		}
	}
	great := plain(640, 640, 1)
	low := api.Stave{Lines: flat(640, 0, 1, 2, 3, 639)}
	if out, e := stave.Rectify(great, low, 639, 0); e != api.OK || !same(out, great) {
		t.Error("Rectify of the greatest image", e)
	}
}

func TestRectifyErrors(t *testing.T) {
	g := plain(10, 34, 1)
	for _, x := range []struct {
		up, down int
		want     api.Errno
	}{
		{-1, 0, api.ErrArg}, {0, -1, api.ErrArg}, {-1, -1, api.ErrArg}, {-1, 641, api.ErrArg}, {641, -1, api.ErrArg}, {math.MinInt, math.MaxInt, api.ErrArg}, {math.MaxInt, math.MinInt, api.ErrArg},
		{0, 639, api.OK}, {639, 0, api.OK}, {320, 319, api.OK}, {0, 640, api.ErrSize}, {640, 0, api.ErrSize}, {320, 320, api.ErrSize},
		{math.MaxInt, 0, api.ErrSize}, {0, math.MaxInt, api.ErrSize}, {math.MaxInt, math.MaxInt, api.ErrSize}, {math.MaxInt, 1, api.ErrSize}, {1, math.MaxInt, api.ErrSize},
	} {
		if out, e := stave.Rectify(g, wide(), x.up, x.down); e != x.want || e != api.OK && !zero(out) {
			t.Errorf("Rectify with %d and %d: %d, want %d", x.up, x.down, e, x.want)
		}
	}
	for _, s := range misfits() {
		for _, up := range []int{-1, 0, 640} {
			if out, e := stave.Rectify(g, s, up, 0); e != api.ErrStave || !zero(out) {
				t.Errorf("Rectify by %v: %d", s, e)
			}
		}
	}
}

func TestRestoreErrors(t *testing.T) {
	g := plain(10, 34, 1)
	for _, x := range []struct {
		w, h, up int
		want     api.Errno
	}{
		{10, 26, 25, api.OK}, {10, 26, 0, api.OK}, {10, 1, 0, api.OK}, {10, 640, 639, api.OK},
		{10, 26, 26, api.ErrArg}, {10, 26, -1, api.ErrArg}, {10, 0, 0, api.ErrArg}, {0, 0, 0, api.ErrArg}, {10, 640, math.MaxInt, api.ErrArg}, {10, 640, math.MinInt, api.ErrArg},
		{9, 26, 26, api.ErrArg}, {9, 26, -1, api.ErrArg}, {9, 26, 25, api.ErrSize}, {11, 26, 0, api.ErrSize}, {0, 26, 3, api.ErrSize},
	} {
		if out, e := stave.Restore(g, plain(x.w, x.h, 0), wide(), x.up); e != x.want || e != api.OK && !zero(out) {
			t.Errorf("Restore of %d by %d with %d: %d, want %d", x.w, x.h, x.up, e, x.want)
		}
	}
	for _, s := range misfits() {
		for _, strip := range []api.Ink{plain(10, 26, 0), plain(9, 0, 0)} {
			if out, e := stave.Restore(g, strip, s, 3); e != api.ErrStave || !zero(out) {
				t.Errorf("Restore by %v: %d", s, e)
			}
		}
	}
}

// TestStripMemory changes results: arguments must not change with them, nor by the call.
func TestStripMemory(t *testing.T) {
	g, s := stepped(t)
	strip := plain(4, 8, 1)
	before := bytes.Clone(g.Pix)
	for _, out := range []api.Ink{must(t)(stave.Rectify(g, s, 7, 0)), must(t)(stave.Restore(g, strip, s, 7))} {
		for i := range out.Pix {
			out.Pix[i] = 7
		}
	}
	if _, same := stepped(t); !bytes.Equal(g.Pix, before) || !sameLines(s.Lines, same.Lines) || bytes.Count(strip.Pix, []byte{1}) != 32 {
		t.Error("an argument has changed")
	}
}
