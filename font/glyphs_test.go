package font_test

import (
	"bytes"
	"math"
	"slices"
	"strings"
	"testing"

	"custos/api"
	"custos/font"
)

// block has glyphs of a set that the document draws side by side, with their values.
type block struct {
	set    font.Set
	values []int
	rows   string
}

// blocks returns all glyphs but the barlines, as the document draws them.
func blocks() []block {
	return []block{
		{font.Heads, []int{1, 2, 3}, `
    .####.  .####.  .####.
    ######  #....#  ##..##
    ######  #....#  ##..##
    ######  #....#  ##..##
    .####.  .####.  .####.`},
		{font.Accs, []int{1, 2, 3}, `
    .#.#  #...  #..#
    ####  #...  #.##
    .#.#  ###.  ####
    ####  #.#.  ##.#
    .#.#  ##..  #..#`},
		{font.Dots, []int{1}, `
    ..
    ##
    ##
    ..
    ..`},
		{font.Ties, []int{1}, `
    ...
    ...
    ...
    #.#
    .#.`},
		{font.Rests, []int{1, 2, 4, 8, 16}, `
    ......  ......  .##...  ##...#  ##...#
    ......  .####.  ..##..  ##..#.  ##..#.
    ......  .####.  ...##.  .###..  .###..
    ......  ......  ..##..  ...#..  ##.#..
    .####.  ......  .##...  ..#...  ####..
    .####.  ......  ..##..  ..#...  ..#...
    ......  ......  ...##.  .#....  .#....`},
		{font.Clefs, []int{1, 2, 3}, `
    .#####  .#####  ######
    ##....  ##....  ##....
    ##.###  ##....  #####.
    ##..##  ##....  ##....
    .#####  .#####  ##....`},
		{font.Marks, []int{1}, `
    ..
    ##
    ##
    ..`},
		{font.Digits, []int{1, 2, 3, 4, 5, 6, 7, 8, 9}, `
    ..#.  ###.  ###.  #..#  ####  .##.  ####  .##.  .##.
    .##.  ...#  ...#  #..#  #...  #...  ...#  #..#  #..#
    ..#.  .##.  .##.  ####  ###.  ###.  ..#.  .##.  .###
    ..#.  #...  ...#  ...#  ...#  #..#  .#..  #..#  ...#
    .###  ####  ###.  ...#  ###.  .##.  .#..  .##.  .##.`},
		{font.Letters, []int{1, 2, 3, 4, 5, 6, 7, 8, 9}, `
    .##.  ###.  .###  ###.  ####  ####  .###  #..#  ###.
    #..#  #..#  #...  #..#  #...  #...  #...  #..#  .#..
    ####  ###.  #...  #..#  ###.  ###.  #.##  ####  .#..
    #..#  #..#  #...  #..#  #...  #...  #..#  #..#  .#..
    #..#  ###.  .###  ###.  ####  #...  .###  #..#  ###.`},
		{font.Letters, []int{10, 11, 12, 13, 14, 15, 16, 17, 18}, `
    ..##  #..#  #...  #..#  #..#  .##.  ###.  .##.  ###.
    ...#  #.#.  #...  ####  ##.#  #..#  #..#  #..#  #..#
    ...#  ##..  #...  ####  #.##  #..#  ###.  #..#  ###.
    #..#  #.#.  #...  #..#  #..#  #..#  #...  #.##  #.#.
    .##.  #..#  ####  #..#  #..#  .##.  #...  .###  #..#`},
		{font.Letters, []int{19, 20, 21, 22, 23, 24, 25, 26, 27}, `
    .###  ####  #..#  #..#  #..#  #..#  #..#  ####  ....
    #...  .#..  #..#  #..#  #..#  .##.  #..#  ...#  ....
    .##.  .#..  #..#  #..#  ####  .##.  .###  .##.  ####
    ...#  .#..  #..#  .##.  ####  .##.  ...#  #...  ....
    ###.  .#..  .##.  .##.  #..#  #..#  .##.  ####  ....`},
	}
}

// middle returns the lines with which the glyphs of a height are dressed: their middle row, or the staff lines of a barline.
func middle(h int) []int {
	if h == 25 {
		return []int{0, 6, 12, 18, 24}
	}
	return []int{h / 2}
}

// blank returns paper of the size of the glyphs of a set.
func blank(s font.Set) api.Ink {
	w, h := font.Size(s)
	return plain(w, h, 0)
}

// differ checks that images differ from each other.
func differ(t *testing.T, s font.Set, l []api.Ink) {
	t.Helper()
	for i := range l {
		for j := range i {
			if same(l[i], l[j]) {
				t.Errorf("set %d: %d and %d are equal", s, j, i)
			}
		}
	}
}

func TestConstants(t *testing.T) {
	for i, s := range sets {
		if s != font.Set(i+1) {
			t.Error("a set has the number", int(s))
		}
	}
}

func TestGlyphsAsDrawn(t *testing.T) {
	drawn := 0
	for _, b := range blocks() {
		fields := strings.Fields(b.rows)
		for i, value := range b.values {
			var rows []string
			for j := i; j < len(fields); j += len(b.values) {
				rows = append(rows, fields[j])
			}
			want := read(strings.Join(rows, " "))
			if g := glyph(t, b.set, value); !same(g, want) {
				t.Errorf("Glyph(%d, %d) is\n%swant\n%s", b.set, value, text(g), text(want))
			}
			drawn++
		}
	}
	if drawn != 3+3+1+1+5+3+1+9+27 {
		t.Error("glyphs that are drawn:", drawn)
	}
}

func TestBars(t *testing.T) {
	columns := map[int][]int{1: {5}, 2: {4, 6}, 3: {4, 6, 7}, 4: {3, 4, 6}, 5: {4, 6, 7}}
	dots := map[int][]int{4: {8, 9}, 5: {1, 2}}
	for value := 1; value <= 5; value++ {
		g := glyph(t, font.Bars, value)
		if !font.Right(g) || g.W != 10 || g.H != 25 {
			t.Fatal("a barline of the size", g.W, g.H)
		}
		for y := range 25 {
			for x := range 10 {
				dotted := slices.Contains(dots[value], x) && slices.Contains([]int{8, 9, 14, 15}, y)
				if has(g, x, y) != (dotted || slices.Contains(columns[value], x)) {
					t.Errorf("barline %d: pixel %d, %d", value, x, y)
				}
			}
		}
	}
	for bar, value := range map[api.Bar]int{api.Single: 1, api.Double: 2, api.Final: 3, api.Open: 4, api.Close: 5} {
		if int(bar) != value {
			t.Error("a value of a barline is not that of api", value)
		}
	}
}

func TestValuesAndSizes(t *testing.T) {
	for _, x := range []struct {
		set    font.Set
		values []int
		w, h   int
	}{
		{font.Heads, []int{1, 2, 3}, 6, 5},
		{font.Accs, []int{1, 2, 3}, 4, 5},
		{font.Dots, []int{1}, 2, 5},
		{font.Ties, []int{1}, 3, 5},
		{font.Rests, []int{1, 2, 4, 8, 16}, 6, 7},
		{font.Clefs, []int{1, 2, 3}, 6, 5},
		{font.Digits, []int{1, 2, 3, 4, 5, 6, 7, 8, 9}, 4, 5},
		{font.Letters, []int{1, 2, 3, 4, 5, 6, 7, 8, 9, 10, 11, 12, 13, 14, 15, 16, 17, 18, 19, 20, 21, 22, 23, 24, 25, 26, 27}, 4, 5},
		{font.Bars, []int{1, 2, 3, 4, 5}, 10, 25},
		{font.Marks, []int{1}, 2, 4},
	} {
		if l := font.Values(x.set); !slices.Equal(l, x.values) {
			t.Errorf("Values(%d) are %v", x.set, l)
		}
		if w, h := font.Size(x.set); w != x.w || h != x.h {
			t.Errorf("Size(%d) is %d, %d", x.set, w, h)
		}
		for _, value := range x.values {
			if g := glyph(t, x.set, value); !font.Right(g) || g.W != x.w || g.H != x.h {
				t.Errorf("Glyph(%d, %d) has the size %d, %d", x.set, value, g.W, g.H)
			}
		}
	}
}

func TestNoGlyphs(t *testing.T) {
	for _, s := range sets {
		values := font.Values(s)
		for value := -2; value < 70; value++ {
			if slices.Contains(values, value) {
				continue
			}
			if g, e := font.Glyph(s, value); e != api.ErrGlyph || !zero(g) {
				t.Errorf("Glyph(%d, %d): %v, %d", s, value, g, e)
			}
		}
		for _, value := range append(extremes, 256+1, 1<<16+1) {
			if g, e := font.Glyph(s, value); e != api.ErrGlyph || !zero(g) {
				t.Errorf("Glyph(%d, %d): %v, %d", s, value, g, e)
			}
		}
	}
	for _, s := range noSets {
		if l := font.Values(s); len(l) != 0 {
			t.Errorf("Values(%d) are %v", s, l)
		}
		if w, h := font.Size(s); w != 0 || h != 0 {
			t.Errorf("Size(%d) is %d, %d", s, w, h)
		}
		for _, value := range []int{math.MinInt, -1, 0, 1, 2, math.MaxInt} {
			if g, e := font.Glyph(s, value); e != api.ErrGlyph || !zero(g) {
				t.Errorf("Glyph(%d, %d): %v, %d", s, value, g, e)
			}
		}
	}
}

// TestGlyphsAreNew changes results, and asks for them again.
func TestGlyphsAreNew(t *testing.T) {
	for _, s := range sets {
		values := font.Values(s)
		for _, value := range values {
			g := glyph(t, s, value)
			was := bytes.Clone(g.Pix)
			invert(g)
			if again := glyph(t, s, value); !bytes.Equal(again.Pix, was) {
				t.Errorf("Glyph(%d, %d) was changed", s, value)
			}
		}
		first := values[0]
		values[0] = 99
		if font.Values(s)[0] != first {
			t.Errorf("Values(%d) were changed", s)
		}
	}
}

func TestGlyphsDiffer(t *testing.T) {
	for _, s := range sets {
		l := []api.Ink{blank(s)}
		for _, value := range font.Values(s) {
			l = append(l, glyph(t, s, value))
		}
		differ(t, s, l)
	}
}

func TestDressedGlyphsDiffer(t *testing.T) {
	for _, s := range sets {
		if s == font.Letters || s == font.Marks {
			continue
		}
		_, h := font.Size(s)
		l := []api.Ink{blank(s)}
		for _, value := range font.Values(s) {
			l = append(l, font.Dress(glyph(t, s, value), middle(h)))
		}
		differ(t, s, l)
	}
}

// TestHeadsOnLines compares heads that are drawn with their middle row, and such that are dressed with it.
func TestHeadsOnLines(t *testing.T) {
	bare, drawn := blank(font.Heads), []api.Ink{font.Lined(blank(font.Heads), middle(5))}
	for _, value := range font.Values(font.Heads) {
		g := glyph(t, font.Heads, value)
		if !same(font.Dress(g, middle(5)), g) {
			t.Error("a head that is dressed is changed:", value)
		}
		lined := font.Lined(g, middle(5))
		if same(lined, bare) {
			t.Error("a head with a line is paper:", value)
		}
		drawn = append(drawn, lined)
	}
	differ(t, font.Heads, drawn)
}

// TestLettersOnLines: b and d would be equal.
func TestLettersOnLines(t *testing.T) {
	if b, d := glyph(t, font.Letters, 2), glyph(t, font.Letters, 4); !same(font.Dress(b, middle(5)), font.Dress(d, middle(5))) || same(b, d) {
		t.Error("b and d")
	}
}
