package page_test

import (
	"bytes"
	"math/rand"
	"slices"
	"strings"
	"testing"

	"custos/api"
	"custos/page"
)

func TestBlotExamples(t *testing.T) {
	k, _ := page.Draw(parsed(t, strings.Replace(chapter, "%", "f#4", 1)))
	for _, x := range []struct {
		l     []api.Point
		errno api.Errno
	}{
		{nil, api.OK},
		{[]api.Point{{X: 0, Y: 0}}, api.OK},
		{[]api.Point{{X: 0, Y: 34}}, api.OK},
		{[]api.Point{{X: 0, Y: 35}}, api.ErrClose},
		{[]api.Point{{X: 0, Y: 36}}, api.ErrClose},
		{[]api.Point{{X: 0, Y: 37}}, api.ErrClose},
		{[]api.Point{{X: 171, Y: 107}}, api.OK},
		{[]api.Point{{X: 172, Y: 107}}, api.ErrRange},
		{[]api.Point{{X: 171, Y: 108}}, api.ErrRange},
		{[]api.Point{{X: -1, Y: 1}}, api.ErrRange},
		{[]api.Point{{X: 1, Y: -1}}, api.ErrRange},
		{[]api.Point{{X: 0, Y: 0}, {X: 2, Y: 0}, {X: 0, Y: 2}, {X: 2, Y: 2}}, api.OK},
		{[]api.Point{{X: 0, Y: 0}, {X: 2, Y: 0}, {X: 1, Y: 2}, {X: 0, Y: 1}}, api.ErrClose},
		{[]api.Point{{X: 5, Y: 5}, {X: 5, Y: 5}}, api.ErrClose},
		{[]api.Point{{X: 5, Y: 5}, {X: 6, Y: 4}}, api.ErrClose},
		{[]api.Point{{X: 5, Y: 5}, {X: 6, Y: 6}, {X: -1, Y: 0}}, api.ErrClose},
		{[]api.Point{{X: 5, Y: 5}, {X: -1, Y: 0}, {X: 6, Y: 6}}, api.ErrRange},
		// The end of a row is not near the beginning of the next one.
		{[]api.Point{{X: 171, Y: 2}, {X: 0, Y: 3}, {X: 0, Y: 1}}, api.OK},
	} {
		b, e := page.Blot(k, x.l)
		if e != x.errno || e != api.OK && !zero(b) || e == api.OK && !sameInk(b, blotted(k, x.l)) {
			t.Errorf("%v: error %d, want %d", x.l, e, x.errno)
		}
	}
	for _, x := range extremes {
		for _, p := range []api.Point{{X: x, Y: 1}, {X: 1, Y: x}, {X: x, Y: x}} {
			if b, e := page.Blot(k, []api.Point{p}); e != api.ErrRange || !zero(b) {
				t.Errorf("%v: error %d", p, e)
			}
		}
	}
}

// blotted returns an image in which some points are ink.
func blotted(k api.Ink, l []api.Point) api.Ink {
	out := api.Ink{W: k.W, H: k.H, Pix: bytes.Clone(k.Pix)}
	for _, p := range l {
		out.Pix[p.Y*k.W+p.X] = 1
	}
	return out
}

// blotBy returns the error of Blot.
func blotBy(k api.Ink, l []api.Point) api.Errno {
	for i, p := range l {
		if p.X < 0 || p.X >= k.W || p.Y < 0 || p.Y >= k.H {
			return api.ErrRange
		}
		for dy := -1; dy <= 1; dy++ {
			for dx := -1; dx <= 1; dx++ {
				if has(k, p.X+dx, p.Y+dy) || slices.Contains(l[:i], api.Point{X: p.X + dx, Y: p.Y + dy}) {
					return api.ErrClose
				}
			}
		}
	}
	return api.OK
}

func TestBlotByDefinition(t *testing.T) {
	r := rand.New(rand.NewSource(11))
	seen := map[api.Errno]int{}
	for range 20000 {
		k := api.Ink{W: r.Intn(9), H: r.Intn(9)}
		k.Pix = make([]byte, k.W*k.H)
		for i := range k.Pix {
			if r.Intn(15) == 0 {
				k.Pix[i] = 1
			}
		}
		var l []api.Point
		for range r.Intn(4) {
			l = append(l, api.Point{X: r.Intn(k.W+1) - r.Intn(12)/11, Y: r.Intn(k.H+1) - r.Intn(12)/11})
		}
		was, wasPoints := blotted(k, nil), slices.Clone(l)
		want := blotBy(k, l)
		seen[want]++
		b, e := page.Blot(k, l)
		if e != want || e == api.OK && !sameInk(b, blotted(k, l)) || e != api.OK && !zero(b) {
			t.Fatalf("%+v, %v: error %d, want %d", k, l, e, want)
		}
		for i := range b.Pix {
			b.Pix[i] ^= 1
		}
		if !sameInk(k, was) || !slices.Equal(l, wasPoints) {
			t.Fatal("an argument was changed, or shares memory with the result")
		}
	}
	if seen[api.OK] < 1000 || seen[api.ErrRange] < 1000 || seen[api.ErrClose] < 1000 {
		t.Error(seen)
	}
}

// TestManySpecks has as many specks as there may be.
func TestManySpecks(t *testing.T) {
	k := api.Ink{W: 640, H: 640, Pix: make([]byte, 640*640)}
	var l []api.Point
	for i := range 320 * 320 {
		l = append(l, api.Point{X: i % 320 * 2, Y: i / 320 * 2})
	}
	if b, e := page.Blot(k, l); e != api.OK || !sameInk(b, blotted(k, l)) {
		t.Errorf("error %d", e)
	}
}

func TestInvalidImages(t *testing.T) {
	for _, k := range invalid() {
		if b, e := page.Blot(k, []api.Point{{X: -1}}); e != api.ErrSize || !zero(b) {
			t.Errorf("Blot of %d by %d: error %d", k.W, k.H, e)
		}
		if b, e := page.Blot(k, nil); e != api.ErrSize || !zero(b) {
			t.Errorf("Blot of %d by %d: error %d", k.W, k.H, e)
		}
		if g, e := page.Shade(k, []byte{1}); e != api.ErrSize || !zero(g) {
			t.Errorf("Shade of %d by %d: error %d", k.W, k.H, e)
		}
	}
	for _, k := range []api.Ink{{}, {W: 640}, {H: 640}} {
		if b, e := page.Blot(k, nil); e != api.OK || !sameInk(b, k) {
			t.Errorf("Blot of %d by %d: error %d", k.W, k.H, e)
		}
		if b, e := page.Blot(k, []api.Point{{}}); e != api.ErrRange || !zero(b) {
			t.Errorf("Blot of %d by %d: error %d", k.W, k.H, e)
		}
		if g, e := page.Shade(k, []byte{1}); e != api.OK || g.W != k.W || g.H != k.H || len(g.Pix) > 0 {
			t.Errorf("Shade of %d by %d: error %d", k.W, k.H, e)
		}
	}
}

func TestShadeExamples(t *testing.T) {
	k := api.Ink{W: 3, H: 2, Pix: []byte{1, 0, 1, 0, 1, 0}}
	for _, x := range []struct{ levels, want []byte }{
		{nil, []byte{0, 255, 0, 255, 0, 255}},
		{[]byte{}, []byte{0, 255, 0, 255, 0, 255}},
		{[]byte{10}, []byte{10, 245, 10, 245, 10, 245}},
		{[]byte{60, 60}, []byte{60, 195, 60, 195, 60, 195}},
		{[]byte{61, 62}, []byte{0, 254, 0, 254, 0, 254}},
		{[]byte{5, 61, 122, 255}, []byte{5, 255, 0, 244, 5, 255}},
		{[]byte{1, 2, 3, 4, 5, 6, 7}, []byte{1, 253, 3, 251, 5, 249}},
	} {
		if g, e := page.Shade(k, x.levels); e != api.OK || g.W != 3 || g.H != 2 || !bytes.Equal(g.Pix, x.want) {
			t.Errorf("%v: %v, error %d", x.levels, g, e)
		}
	}
}

func TestShadeByDefinition(t *testing.T) {
	r := rand.New(rand.NewSource(12))
	for range 500 {
		k := api.Ink{W: r.Intn(30), H: r.Intn(30)}
		for range k.W * k.H {
			k.Pix = append(k.Pix, byte(r.Intn(2)))
		}
		levels := make([]byte, r.Intn(400))
		r.Read(levels)
		was, wasLevels := blotted(k, nil), bytes.Clone(levels)
		g, e := page.Shade(k, levels)
		if e != api.OK || g.W != k.W || g.H != k.H || len(g.Pix) != len(k.Pix) {
			t.Fatalf("error %d", e)
		}
		for i, p := range g.Pix {
			level := 0
			if len(levels) > 0 {
				level = int(levels[i%len(levels)]) % 61
			}
			if k.Pix[i] == 0 {
				level = 255 - level
			}
			if int(p) != level {
				t.Fatalf("pixel %d is %d, want %d", i, p, level)
			}
			g.Pix[i]++
		}
		if !sameInk(k, was) || !bytes.Equal(levels, wasLevels) {
			t.Fatal("an argument was changed, or shares memory with the result")
		}
	}
}
