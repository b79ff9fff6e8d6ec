package font_test

import (
	"cmp"
	"math"
	"math/big"
	"math/rand"
	"slices"
	"testing"

	"custos/api"
	"custos/font"
)

// missAt counts the pixels of g that differ from those of k from a point on.
func missAt(k, g api.Ink, x, y int) int {
	n := 0
	for i := range g.Pix {
		if has(g, i%g.W, i/g.W) != has(k, x+i%g.W, y+i/g.W) {
			n++
		}
	}
	return n
}

// findOf is Find by its definition.
func findOf(k, g api.Ink, most int) []api.Point {
	var l []api.Point
	for y := 0; y+g.H <= k.H && len(g.Pix) > 0; y++ {
		for x := 0; x+g.W <= k.W; x++ {
			if missAt(k, g, x, y) <= most {
				l = append(l, api.Point{X: x, Y: y})
			}
		}
	}
	return l
}

// optionsOf is Options by its definition, for an image that has the size of the set.
func optionsOf(t *testing.T, w api.Ink, s font.Set, lines []int, lined bool) []api.Option {
	l := []api.Option{{Value: 0, Miss: missAt(w, blank(s), 0, 0)}}
	for _, value := range font.Values(s) {
		g := glyph(t, s, value)
		if lined {
			g = linedOf(g, lines)
		} else {
			g = dressOf(g, lines)
		}
		l = append(l, api.Option{Value: value, Miss: missAt(w, g, 0, 0)})
	}
	slices.SortFunc(l, func(a, b api.Option) int {
		return cmp.Or(cmp.Compare(a.Miss, b.Miss), cmp.Compare(a.Value, b.Value))
	})
	return l
}

// noisy returns a glyph with some pixels exchanged.
func noisy(r *rand.Rand, g api.Ink, n int) api.Ink {
	out := twin(g)
	for range n {
		out.Pix[r.Intn(len(out.Pix))] ^= 1
	}
	return out
}

func TestMiss(t *testing.T) {
	for _, x := range []struct {
		a, b api.Ink
		want int
	}{
		{read("#.# .#."), read("#.# .#."), 0},
		{read("#.# .#."), read("..# .##"), 2},
		{read("#.# .#."), read(".#. #.#"), 6},
		{plain(6, 1, 1), plain(1, 6, 1), -1},
		{plain(6, 1, 1), plain(3, 2, 1), -1},
		{plain(3, 2, 1), plain(3, 1, 1), -1},
		{plain(3, 2, 1), plain(2, 2, 1), -1},
		{plain(640, 640, 1), plain(640, 640, 0), 640 * 640},
		{plain(640, 640, 1), plain(640, 640, 1), 0},
		{api.Ink{}, api.Ink{}, 0},
		{api.Ink{W: 3}, api.Ink{W: 3}, 0},
		{api.Ink{H: 3}, api.Ink{H: 3}, 0},
		{api.Ink{H: 3}, api.Ink{W: 3}, -1},
		{api.Ink{}, api.Ink{W: 3}, -1},
		{api.Ink{H: 2}, api.Ink{H: 3}, -1},
	} {
		if n := font.Miss(x.a, x.b); n != x.want {
			t.Errorf("Miss of\n%sand\n%sis %d", text(x.a), text(x.b), n)
		}
		if n := font.Miss(x.b, x.a); n != x.want {
			t.Errorf("Miss of\n%sand\n%sis %d", text(x.b), text(x.a), n)
		}
	}
}

// TestMissByDefinition has images of all widths about multiples of 64, and such with only one pixel that differs.
func TestMissByDefinition(t *testing.T) {
	r := rand.New(rand.NewSource(5))
	for _, w := range []int{1, 2, 31, 63, 64, 65, 127, 128, 129, 200, 511, 512, 513, 575, 576, 577, 639, 640} {
		a, b := scattered(r, w, 3, 5), scattered(r, w, 3, 5)
		if n := font.Miss(a, b); n != missAt(a, b, 0, 0) {
			t.Errorf("%d columns: Miss is %d, want %d", w, n, missAt(a, b, 0, 0))
		}
		for i := range a.Pix {
			c := twin(a)
			c.Pix[i] ^= 1
			if n := font.Miss(a, c); n != 1 {
				t.Errorf("%d columns, pixel %d: Miss is %d", w, i, n)
			}
		}
	}
}

func TestShare(t *testing.T) {
	for _, x := range []struct {
		a, b api.Ink
		want api.Ratio
	}{
		{glyph(t, font.Digits, 6), glyph(t, font.Digits, 8), api.Ratio{N: 9, D: 10}},
		{read("#.# .#."), read("#.# .#."), api.Ratio{N: 1, D: 1}},
		{read("#.# .#."), read("#.# .##"), api.Ratio{N: 5, D: 6}},
		{read("#.# .#."), read("#.. .##"), api.Ratio{N: 2, D: 3}},
		{read("#.# .#."), read(".#. #.#"), api.Ratio{N: 0, D: 1}},
		{plain(640, 640, 1), plain(640, 640, 0), api.Ratio{N: 0, D: 1}},
		{plain(6, 1, 1), plain(3, 2, 1), api.Ratio{N: 0, D: 1}},
		{api.Ink{}, api.Ink{}, api.Ratio{N: 1, D: 1}},
		{api.Ink{W: 3}, api.Ink{W: 3}, api.Ratio{N: 1, D: 1}},
		{api.Ink{H: 3}, api.Ink{H: 3}, api.Ratio{N: 1, D: 1}},
		{api.Ink{H: 3}, api.Ink{W: 3}, api.Ratio{N: 0, D: 1}},
		{api.Ink{}, plain(1, 1, 0), api.Ratio{N: 0, D: 1}},
		{plain(1, 1, 0), api.Ink{}, api.Ratio{N: 0, D: 1}},
	} {
		if s := font.Share(x.a, x.b); s != x.want {
			t.Errorf("Share of\n%sand\n%sis %v", text(x.a), text(x.b), s)
		}
	}
	for all := 1; all <= 60; all++ {
		for miss := 0; miss <= all; miss++ {
			k := plain(all, 1, 0)
			for i := range miss {
				k.Pix[i] = 1
			}
			want := big.NewRat(int64(all-miss), int64(all))
			if s := font.Share(k, plain(all, 1, 0)); int64(s.N) != want.Num().Int64() || int64(s.D) != want.Denom().Int64() {
				t.Errorf("Share of %d pixels of which %d differ: %v", all, miss, s)
			}
		}
	}
}

func TestOptionsExamples(t *testing.T) {
	black, white := glyph(t, font.Heads, 1), glyph(t, font.Heads, 2)
	for _, x := range []struct {
		w     api.Ink
		set   font.Set
		lines []int
		lined bool
		want  []api.Option
	}{
		{black, font.Heads, nil, false, []api.Option{{Value: 1, Miss: 0}, {Value: 3, Miss: 6}, {Value: 2, Miss: 12}, {Value: 0, Miss: 26}}},
		{black, font.Heads, nil, true, []api.Option{{Value: 1, Miss: 0}, {Value: 3, Miss: 6}, {Value: 2, Miss: 12}, {Value: 0, Miss: 26}}},
		// dressed heads are not changed; with the line the heads differ less, and paper has no line
		{black, font.Heads, []int{2}, false, []api.Option{{Value: 1, Miss: 0}, {Value: 3, Miss: 6}, {Value: 2, Miss: 12}, {Value: 0, Miss: 26}}},
		{black, font.Heads, []int{2}, true, []api.Option{{Value: 1, Miss: 0}, {Value: 3, Miss: 4}, {Value: 2, Miss: 8}, {Value: 0, Miss: 26}}},
		{blank(font.Heads), font.Heads, []int{2}, true, []api.Option{{Value: 0, Miss: 0}, {Value: 2, Miss: 18}, {Value: 3, Miss: 22}, {Value: 1, Miss: 26}}},
		{white, font.Heads, nil, false, []api.Option{{Value: 2, Miss: 0}, {Value: 3, Miss: 6}, {Value: 1, Miss: 12}, {Value: 0, Miss: 14}}},
		// those with the same Miss by their values
		{read(".. #. #. .. .."), font.Dots, nil, false, []api.Option{{Value: 0, Miss: 2}, {Value: 1, Miss: 2}}},
		{read(".. ## #. .. .."), font.Dots, nil, false, []api.Option{{Value: 1, Miss: 1}, {Value: 0, Miss: 3}}},
		// a flat with a line through it is not taken for one without it
		{read("#... #... #.#. #.#. ##.."), font.Accs, []int{2}, false, []api.Option{{Value: 2, Miss: 0}, {Value: 0, Miss: 8}, {Value: 3, Miss: 10}, {Value: 1, Miss: 12}}},
	} {
		if l := font.Options(x.w, x.set, x.lines, x.lined); !slices.Equal(l, x.want) {
			t.Errorf("Options of\n%sfor %d, %v, %v: %v, want %v", text(x.w), x.set, x.lines, x.lined, l, x.want)
		}
	}
}

func TestOptionsByDefinition(t *testing.T) {
	r := rand.New(rand.NewSource(6))
	for _, s := range sets {
		w, h := font.Size(s)
		for i := range 60 {
			values := font.Values(s)
			images := []api.Ink{scattered(r, w, h, i%11), noisy(r, glyph(t, s, values[i%len(values)]), i%5)}
			lines := [][]int{nil, middle(h), someLines(r, h), extremes}[i%4]
			for _, k := range images {
				for _, lined := range []bool{false, true} {
					was, before := twin(k), slices.Clone(lines)
					if l, want := font.Options(k, s, lines, lined), optionsOf(t, k, s, lines, lined); !slices.Equal(l, want) {
						t.Errorf("Options of\n%sfor %d, %v, %v: %v, want %v", text(k), s, lines, lined, l, want)
					}
					if !same(k, was) || !slices.Equal(lines, before) {
						t.Fatal("an argument was changed")
					}
				}
			}
		}
	}
}

// TestOptionsOfGlyphs: each glyph has a best option without a miss, and no other one.
func TestOptionsOfGlyphs(t *testing.T) {
	for _, s := range sets {
		_, h := font.Size(s)
		for _, value := range font.Values(s) {
			g := glyph(t, s, value)
			for _, x := range []struct {
				w     api.Ink
				lines []int
				lined bool
				some  bool
			}{
				{g, nil, false, true},
				{font.Dress(g, middle(h)), middle(h), false, s != font.Letters && s != font.Marks},
				{font.Lined(g, middle(h)), middle(h), true, s == font.Heads},
			} {
				if l := font.Options(x.w, s, x.lines, x.lined); x.some && (l[0] != api.Option{Value: value, Miss: 0} || l[1].Miss == 0) {
					t.Errorf("glyph %d of %d: %v", value, s, l)
				}
			}
		}
	}
}

func TestNoOptions(t *testing.T) {
	for _, s := range sets {
		w, h := font.Size(s)
		g := plain(w, h, 1)
		g.Pix[0] = 2
		wrong := append(invalid(), g, api.Ink{W: w, H: h}, api.Ink{W: w, H: h, Pix: make([]byte, w*h+1)})
		for _, k := range append(append(wrong, empties()...), plain(w+1, h, 0), plain(w, h+1, 0), plain(w-1, h, 0), plain(w, h-1, 0), plain(h, w, 0)) {
			for _, lined := range []bool{false, true} {
				if l := font.Options(k, s, []int{2}, lined); len(l) != 0 {
					t.Errorf("set %d, %d by %d pixels: %v", s, k.W, k.H, l)
				}
			}
		}
	}
	for _, s := range noSets {
		for _, k := range append(empties(), plain(6, 5, 1), plain(1, 1, 0)) {
			if l := font.Options(k, s, nil, false); len(l) != 0 {
				t.Errorf("set %d, %d by %d pixels: %v", s, k.W, k.H, l)
			}
		}
	}
}

func TestFind(t *testing.T) {
	k, g := read("#.#. .#.. #.#."), read("#. .#")
	for _, x := range []struct {
		k, g api.Ink
		most int
		want []api.Point
	}{
		{k, g, 0, []api.Point{{X: 0, Y: 0}, {X: 1, Y: 1}}},
		{k, g, 1, []api.Point{{X: 0, Y: 0}, {X: 2, Y: 0}, {X: 1, Y: 1}}},
		{k, g, 4, []api.Point{{X: 0, Y: 0}, {X: 1, Y: 0}, {X: 2, Y: 0}, {X: 0, Y: 1}, {X: 1, Y: 1}, {X: 2, Y: 1}}},
		{k, g, math.MaxInt, []api.Point{{X: 0, Y: 0}, {X: 1, Y: 0}, {X: 2, Y: 0}, {X: 0, Y: 1}, {X: 1, Y: 1}, {X: 2, Y: 1}}},
		{k, g, -1, nil},
		{k, g, math.MinInt, nil},
		{k, k, 0, []api.Point{{}}},
		{k, plain(4, 3, 1), 6, nil},
		{k, plain(4, 3, 1), 7, []api.Point{{}}},
		{g, k, 99, nil},
		{k, plain(5, 1, 0), 99, nil},
		{k, plain(1, 4, 0), 99, nil},
		{k, plain(4, 1, 0), 1, []api.Point{{X: 0, Y: 1}}},
		{k, plain(1, 3, 0), 0, []api.Point{{X: 3, Y: 0}}},
		{k, plain(1, 1, 1), 0, []api.Point{{X: 0, Y: 0}, {X: 2, Y: 0}, {X: 1, Y: 1}, {X: 0, Y: 2}, {X: 2, Y: 2}}},
		{plain(1, 1, 0), plain(1, 1, 1), 1, []api.Point{{}}},
		{plain(1, 1, 0), plain(1, 1, 1), 0, nil},
	} {
		if l := font.Find(x.k, x.g, x.most); !slices.Equal(l, x.want) {
			t.Errorf("Find of\n%sin\n%swith %d: %v, want %v", text(x.g), text(x.k), x.most, l, x.want)
		}
	}
	for _, none := range empties() {
		for _, most := range []int{0, 99, math.MaxInt} {
			if len(font.Find(k, none, most)) != 0 || len(font.Find(none, g, most)) != 0 || len(font.Find(none, none, most)) != 0 {
				t.Error("found without pixels", none.W, none.H)
			}
		}
	}
}

func TestFindByDefinition(t *testing.T) {
	r := rand.New(rand.NewSource(7))
	for i := range 400 {
		k := scattered(r, r.Intn(14), r.Intn(10), r.Intn(11))
		g := scattered(r, r.Intn(5), r.Intn(5), r.Intn(11))
		if i%20 == 0 {
			k, g = scattered(r, 120+r.Intn(90), 6, r.Intn(11)), scattered(r, 55+r.Intn(80), 3, r.Intn(11))
		}
		most := r.Intn(len(g.Pix)+3) - 1
		if l, want := font.Find(k, g, most), findOf(k, g, most); !slices.Equal(l, want) {
			t.Errorf("Find of\n%sin\n%swith %d: %v, want %v", text(g), text(k), most, l, want)
		}
	}
}

// TestFindWindows finds what is cut out of an image, and what is cut out and spoilt, at all columns.
func TestFindWindows(t *testing.T) {
	r := rand.New(rand.NewSource(8))
	k := scattered(r, 300, 30, 5)
	for _, w := range []int{40, 63, 64, 65, 130} {
		for x := 0; x+w <= k.W; x += 7 {
			part := font.Window(k, api.Rect{X: x, Y: x % 10, W: w, H: 20})
			want := []api.Point{{X: x, Y: x % 10}}
			if l := font.Find(k, part, 0); !slices.Equal(l, want) {
				t.Errorf("%d columns from %d on: %v", w, x, l)
			}
			part.Pix[r.Intn(len(part.Pix))] ^= 1
			if l := font.Find(k, part, 0); len(l) != 0 {
				t.Errorf("%d spoilt columns from %d on: %v", w, x, l)
			}
			if l := font.Find(k, part, 1); !slices.Equal(l, want) {
				t.Errorf("%d spoilt columns from %d on: %v", w, x, l)
			}
		}
	}
}

func TestFindInLargeImages(t *testing.T) {
	k, g := plain(640, 640, 1), plain(320, 320, 1)
	if l := font.Find(k, g, 0); len(l) != 321*321 || l[len(l)-1] != (api.Point{X: 320, Y: 320}) {
		t.Error("ink in ink:", len(l))
	}
	invert(g)
	if l := font.Find(k, g, 320*320-1); len(l) != 0 {
		t.Error("paper in ink:", len(l))
	}
	k.Pix[639*640+639] = 0
	if l := font.Find(k, g, 320*320-1); !slices.Equal(l, []api.Point{{X: 320, Y: 320}}) {
		t.Error("a hole at the end:", l)
	}
	if l := font.Find(k, twin(k), 0); !slices.Equal(l, []api.Point{{}}) {
		t.Error("the image itself:", l)
	}
}
