package cell_test

import (
	"bytes"
	"math"
	"math/rand"
	"reflect"
	"slices"
	"testing"

	"custos/api"
	"custos/cell"
	"custos/font"
)

// extremes has numbers that no field, Index or value may have.
var extremes = []int{math.MinInt, math.MinInt + 1, -1 << 32, -100, 100, 1 << 32, math.MaxInt - 1, math.MaxInt}

// kinds has all kinds of cells.
var kinds = []api.Kind{api.ClefCell, api.KeyCell, api.MeterCell, api.EventCell, api.BarCell}

// noKinds has numbers that are no kinds.
var noKinds = []api.Kind{math.MinInt, -1, 0, 6, 7, math.MaxInt}

// restValues has the values of a rest, and that of no rest.
var restValues = []api.Value{0, api.Whole, api.Half, api.Quarter, api.Eighth, api.Sixteenth}

// has reports whether an image has ink at a point.
func has(k api.Ink, x, y int) bool {
	return x >= 0 && x < k.W && y >= 0 && y < k.H && k.Pix[y*k.W+x] == 1
}

// count returns how many pixels of an image are ink.
func count(k api.Ink) int {
	return bytes.Count(k.Pix, []byte{1})
}

// same compares two images.
func same(a, b api.Ink) bool {
	return a.W == b.W && a.H == b.H && bytes.Equal(a.Pix, b.Pix)
}

// zero reports whether an image is the zero image.
func zero(k api.Ink) bool {
	return k.W == 0 && k.H == 0 && len(k.Pix) == 0
}

// twin returns the same image in new memory.
func twin(k api.Ink) api.Ink {
	return api.Ink{W: k.W, H: k.H, Pix: bytes.Clone(k.Pix)}
}

// flip exchanges ink and paper at a point, in the image itself.
func flip(k api.Ink, x, y int) {
	k.Pix[y*k.W+x] ^= 1
}

// plain returns an image of paper, or of ink.
func plain(w, h int, pixel byte) api.Ink {
	return api.Ink{W: w, H: h, Pix: bytes.Repeat([]byte{pixel}, w*h)}
}

// paper returns a suitable image of paper.
func paper() api.Ink {
	return plain(24, 108, 0)
}

// fill makes a rectangle ink, in the image itself.
func fill(k api.Ink, x, y, w, h int) {
	for i := range w * h {
		k.Pix[(y+i/w)*k.W+x+i%w] = 1
	}
}

// stamp draws a glyph whose upper left pixel is at a point, in the image itself.
func stamp(k api.Ink, s font.Set, value, x, y int) {
	g, _ := font.Glyph(s, value)
	for i := range g.Pix {
		if has(g, i%g.W, i/g.W) {
			fill(k, x+i%g.W, y+i/g.W, 1, 1)
		}
	}
}

// spoilt returns an image of which some pixels are exchanged.
func spoilt(r *rand.Rand, k api.Ink, n int) api.Ink {
	out := twin(k)
	for range n {
		flip(out, r.Intn(k.W), r.Intn(k.H))
	}
	return out
}

// unsuitable returns images that are not valid, or have not the size of a cell.
func unsuitable() []api.Ink {
	wrong := paper()
	wrong.Pix[len(wrong.Pix)-1] = 2
	return []api.Ink{
		{},
		{W: 24, H: 108},
		{W: 24, H: 108, Pix: make([]byte, 24*108-1)},
		{W: 24, H: 108, Pix: make([]byte, 24*108+1)},
		{W: -24, H: -108, Pix: make([]byte, 24*108)},
		wrong,
		plain(23, 108, 0), plain(25, 108, 0), plain(24, 107, 0), plain(24, 109, 0), plain(108, 24, 0),
		plain(12, 216, 0), plain(640, 640, 1), plain(0, 0, 0), plain(10, 25, 0),
		{W: math.MinInt, H: math.MaxInt, Pix: []byte{1}},
	}
}

// black returns heads of the kind 1.
func black(steps ...int) []api.Head {
	var l []api.Head
	for _, s := range steps {
		l = append(l, api.Head{Step: s, Kind: 1})
	}
	return l
}

// event returns a cell with heads.
func event(heads []api.Head) api.Cell {
	return api.Cell{Kind: api.EventCell, Heads: heads}
}

// rest returns a cell with rests.
func rest(middle, upper, lower api.Value) api.Cell {
	return api.Cell{Kind: api.EventCell, Rest: [3]api.Value{middle, upper, lower}}
}

// ordinary returns all valid cells that are not for events.
func ordinary() []api.Cell {
	var l []api.Cell
	for clef := api.Treble; clef <= api.Bass; clef++ {
		l = append(l, api.Cell{Kind: api.ClefCell, Clef: clef})
	}
	for key := -4; key <= 4; key++ {
		l = append(l, api.Cell{Kind: api.KeyCell, Key: key})
	}
	for beats := 1; beats <= 9; beats++ {
		for _, unit := range []int{2, 4, 8} {
			l = append(l, api.Cell{Kind: api.MeterCell, Beats: beats, Unit: unit})
		}
	}
	for bar := api.Single; bar <= api.Close; bar++ {
		l = append(l, api.Cell{Kind: api.BarCell, Bar: bar}, api.Cell{Kind: api.BarCell, Bar: bar, Free: true})
	}
	return l
}

// someHeads returns any heads that a cell may have.
func someHeads(r *rand.Rand) []api.Head {
	var l []api.Head
	most := 1 + r.Intn(9)
	for step := -4 + r.Intn(9); step <= 12; step += 2 + r.Intn(most) {
		l = append(l, api.Head{Step: step, Kind: 1 + r.Intn(3), Acc: r.Intn(4), Dot: r.Intn(3) == 0, Tie: r.Intn(3) == 0})
	}
	return l
}

// someEvent returns any valid cell for events.
func someEvent(r *rand.Rand) api.Cell {
	for {
		c := event(nil)
		if r.Intn(4) > 0 {
			c.Heads = someHeads(r)
		}
		for i := range c.Rest {
			if r.Intn(2) == 0 {
				c.Rest[i], c.RestDot[i] = restValues[r.Intn(6)], r.Intn(2) == 0
			}
		}
		for i := range c.Stem {
			c.Stem[i], c.Triple[i] = r.Intn(2) == 0, r.Intn(3) == 0
		}
		for i := range c.Beam {
			c.Beam[i] = r.Intn(3) * r.Intn(3)
		}
		c.Text = []string{"", "", "a", "z", "b-", "la", "qu-", "xyz", "gjk-", "wmvf", "otsr", "dehi"}[r.Intn(12)]
		if rightCell(c) {
			return c
		}
	}
}

// someCell returns any valid cell.
func someCell(r *rand.Rand) api.Cell {
	if l := ordinary(); r.Intn(4) == 0 {
		return l[r.Intn(len(l))]
	}
	return someEvent(r)
}

// equal compares two cells.
func equal(a, b api.Cell) bool {
	if len(a.Heads) == 0 && len(b.Heads) == 0 {
		a.Heads, b.Heads = nil, nil
	}
	return reflect.DeepEqual(a, b)
}

// bare returns the bare image of a valid cell.
func bare(t *testing.T, c api.Cell) api.Ink {
	t.Helper()
	k, e := cell.Bare(c)
	if e != api.OK {
		t.Fatalf("Bare of %+v: error %d", c, e)
	}
	return k
}

// features returns what is read of a suitable image.
func features(t *testing.T, k api.Ink, kind api.Kind) []api.Feature {
	t.Helper()
	l, e := cell.Read(k, kind)
	if e != api.OK {
		t.Fatalf("Read as %d: error %d", kind, e)
	}
	return l
}

// of returns the feature at a place; there is one.
func of(t *testing.T, l []api.Feature, w api.What, index int) api.Feature {
	t.Helper()
	i := slices.IndexFunc(l, func(f api.Feature) bool { return f.Place == api.Place{What: w, Index: index} })
	if i < 0 {
		t.Fatalf("no feature %d at %d", w, index)
	}
	return l[i]
}

// asking returns a feature with options of some values.
func asking(w api.What, index int, values ...int) api.Feature {
	f := api.Feature{Place: api.Place{What: w, Index: index}}
	for _, v := range values {
		f.Options = append(f.Options, api.Option{Value: v})
	}
	return f
}
