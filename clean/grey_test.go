package clean_test

import (
	"bytes"
	"math"
	"math/rand"
	"slices"
	"testing"

	"custos/api"
	"custos/clean"
)

// levelOf is Level by its definition: all pairs of levels are looked at.
func levelOf(pix []byte) int {
	l := slices.Compact(slices.Sorted(slices.Values(pix)))
	level, widest := 128, -1
	for i := 1; i < len(l); i++ {
		if a, b := int(l[i-1]), int(l[i]); b-a > widest {
			level, widest = (a+b+1)/2, b-a
		}
	}
	return level
}

func TestLevel(t *testing.T) {
	for _, x := range []struct {
		pix  []byte
		want int
	}{
		{nil, 128},
		{[]byte{0}, 128},
		{[]byte{255, 255, 255}, 128},
		{[]byte{10, 20, 200, 210}, 110},
		{[]byte{210, 10, 200, 20, 10}, 110},
		{[]byte{0, 100, 200}, 50},
		{[]byte{200, 100, 0}, 50},
		{[]byte{0, 100, 201}, 151},
		{[]byte{0, 255}, 128},
		{[]byte{0, 1}, 1},
		{[]byte{0, 2}, 1},
		{[]byte{254, 255}, 255},
		{[]byte{253, 255}, 254},
		{[]byte{3, 4, 5}, 4},
	} {
		if n, e := clean.Level(api.Grey{W: len(x.pix), H: 1, Pix: x.pix}); e != api.OK || n != x.want {
			t.Errorf("Level of %v: %d, %d, want %d", x.pix, n, e, x.want)
		}
	}
	for _, g := range []api.Grey{{}, {W: 640}, {H: 640}} {
		if n, e := clean.Level(g); e != api.OK || n != 128 {
			t.Error("Level without pixels", n, e)
		}
	}
}

func TestLevelByDefinition(t *testing.T) {
	r := rand.New(rand.NewSource(3))
	for range 300 {
		g := api.Grey{W: 1 + r.Intn(6), H: 1 + r.Intn(3)}
		for range g.W * g.H {
			g.Pix = append(g.Pix, byte(r.Intn(1+r.Intn(256))))
		}
		if n, e := clean.Level(g); e != api.OK || n != levelOf(g.Pix) {
			t.Errorf("Level of %v: %d, %d, want %d", g.Pix, n, e, levelOf(g.Pix))
		}
	}
}

func TestLevelErrors(t *testing.T) {
	for _, g := range invalidGrey() {
		if n, e := clean.Level(g); e != api.ErrSize || n != 0 {
			t.Errorf("Level of %d by %d with %d pixels: %d, %d", g.W, g.H, len(g.Pix), n, e)
		}
	}
}

func TestGrey(t *testing.T) {
	ink := read(t, "3 2\n#.#\n.#.\n")
	for _, x := range []struct {
		dark, light int
		want        []byte
	}{
		{9, 250, []byte{9, 250, 9, 250, 9, 250}},
		{0, 255, []byte{0, 255, 0, 255, 0, 255}},
		{255, 0, []byte{255, 0, 255, 0, 255, 0}},
		{7, 7, []byte{7, 7, 7, 7, 7, 7}},
	} {
		if g, e := clean.Grey(ink, x.dark, x.light); e != api.OK || g.W != 3 || g.H != 2 || !bytes.Equal(g.Pix, x.want) {
			t.Errorf("Grey(%d, %d): %v, %d", x.dark, x.light, g, e)
		}
	}
	if g, e := clean.Grey(paper(0, 5), 1, 2); e != api.OK || g.W != 0 || g.H != 5 || len(g.Pix) != 0 {
		t.Error("Grey without pixels", g, e)
	}
}

func TestGreyErrors(t *testing.T) {
	for _, n := range []int{-1, 256, math.MinInt, math.MaxInt} {
		for _, x := range [][2]int{{n, 5}, {5, n}, {n, n}} {
			if g, e := clean.Grey(ruled(2, 1, 0), x[0], x[1]); e != api.ErrArg || g.W != 0 || g.H != 0 || len(g.Pix) != 0 {
				t.Errorf("Grey%v: %v, %d", x, g, e)
			}
		}
	}
	if _, e := clean.Grey(paper(0, 0), 0, 256); e != api.ErrArg {
		t.Error("Grey without pixels, with a level that is none", e)
	}
}
