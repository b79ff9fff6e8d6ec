package cell_test

import (
	"bytes"
	"cmp"
	"reflect"
	"regexp"
	"slices"
	"strings"

	"custos/api"
	"custos/font"
)

// rightCell is Check by its definition.
func rightCell(c api.Cell) bool {
	others := c
	others.Kind = 0
	ok := false
	switch c.Kind {
	case api.ClefCell:
		ok, others.Clef = c.Clef == 1 || c.Clef == 2 || c.Clef == 3, 0
	case api.KeyCell:
		ok, others.Key = c.Key >= -4 && c.Key <= 4, 0
	case api.MeterCell:
		ok = c.Beats >= 1 && c.Beats <= 9 && (c.Unit == 2 || c.Unit == 4 || c.Unit == 8)
		others.Beats, others.Unit = 0, 0
	case api.BarCell:
		ok = c.Bar >= 1 && c.Bar <= 5
		others.Bar, others.Free = 0, false
	case api.EventCell:
		ok = rightHeads(c.Heads) && rightRests(c) && rightStems(c) && regexp.MustCompile(`^([a-z]{1,4}|[a-z]{1,3}-)?$`).MatchString(c.Text)
		for _, beam := range c.Beam {
			ok = ok && beam >= 0 && beam <= 4
		}
		others.Heads, others.Rest, others.RestDot, others.Stem = nil, [3]api.Value{}, [3]bool{}, [2]bool{}
		others.Beam, others.Triple, others.Text = [4]int{}, [2]bool{}, ""
	}
	if len(others.Heads) == 0 {
		others.Heads = nil
	}
	return ok && reflect.ValueOf(others).IsZero()
}

func rightHeads(l []api.Head) bool {
	last := -6
	for _, h := range l {
		if h.Step < -4 || h.Step > 12 || h.Step < last+2 || h.Kind < 1 || h.Kind > 3 || h.Acc < 0 || h.Acc > 3 {
			return false
		}
		last = h.Step
	}
	return true
}

func rightRests(c api.Cell) bool {
	for zone, rest := range c.Rest {
		if !slices.Contains(restValues, rest) || c.RestDot[zone] && rest == 0 {
			return false
		}
	}
	if c.Rest[0] != 0 && (len(c.Heads) > 0 || c.Rest[1] != 0 || c.Rest[2] != 0) {
		return false
	}
	for _, h := range c.Heads {
		if h.Step >= 5 && c.Rest[1] != 0 || h.Step <= 3 && c.Rest[2] != 0 {
			return false
		}
	}
	return true
}

func rightStems(c api.Cell) bool {
	if c.Stem != [2]bool{true, true} {
		return c.Stem == [2]bool{} || len(c.Heads) > 0
	}
	above, below := false, false
	for _, h := range c.Heads {
		above, below = above || h.Step >= 5, below || h.Step <= 4
	}
	return above && below
}

// drawnOf is what is drawn of a valid cell, besides the staff lines, by its definition.
func drawnOf(c api.Cell) api.Ink {
	k := paper()
	switch c.Kind {
	case api.ClefCell:
		stamp(k, font.Clefs, int(c.Clef), 7, []int{0, 52, 46, 40}[c.Clef])
	case api.KeyCell:
		for i := 0; i < c.Key; i++ {
			stamp(k, font.Accs, 1, 1+5*i, 58-3*[]int{8, 5, 9, 6}[i])
		}
		for i := 0; i < -c.Key; i++ {
			stamp(k, font.Accs, 2, 1+5*i, 58-3*[]int{4, 7, 3, 6}[i])
		}
	case api.MeterCell:
		stamp(k, font.Digits, c.Beats, 8, 40)
		stamp(k, font.Digits, c.Unit, 8, 52)
	case api.BarCell:
		stamp(k, font.Bars, int(c.Bar), 6, 36)
		if c.Free {
			stamp(k, font.Marks, 1, 11, 26)
		}
	case api.EventCell:
		drawHeads(k, c.Heads)
		drawRests(k, c)
		drawStems(k, c)
		drawOthers(k, c)
	}
	return k
}

func drawHeads(k api.Ink, l []api.Head) {
	for _, h := range l {
		top := 60 - 3*h.Step - 2
		stamp(k, font.Heads, h.Kind, 7, top)
		if h.Acc != 0 {
			stamp(k, font.Accs, h.Acc, 1, top)
		}
		if h.Dot {
			stamp(k, font.Dots, 1, 17, top)
		}
		if h.Tie {
			stamp(k, font.Ties, 1, 20, top)
		}
		for _, ledger := range []struct {
			drawn bool
			row   int
		}{{h.Step >= 10, 30}, {h.Step >= 12, 24}, {h.Step <= -2, 66}, {h.Step <= -4, 72}} {
			if ledger.drawn {
				fill(k, 6, ledger.row, 8, 1)
			}
		}
	}
}

func drawRests(k api.Ink, c api.Cell) {
	for zone, row := range []int{48, 30, 66} {
		if c.Rest[zone] != 0 {
			stamp(k, font.Rests, int(c.Rest[zone]), 7, row-3)
		}
		if c.RestDot[zone] {
			stamp(k, font.Dots, 1, 17, row-2)
		}
	}
}

func drawStems(k api.Ink, c api.Cell) {
	both := c.Stem[0] && c.Stem[1]
	for _, h := range c.Heads {
		row := 60 - 3*h.Step
		// The longest one of these stems is that of the head that is farthest from its end.
		if c.Stem[0] && (!both || h.Step >= 5) {
			fill(k, 13, 12, 1, row-12+1)
		}
		if c.Stem[1] && (!both || h.Step <= 4) {
			fill(k, 6, row, 1, 84-row+1)
		}
	}
}

func drawOthers(k api.Ink, c api.Cell) {
	for i, row := range []int{12, 15, 83, 80} {
		if from, to := beamColumns(i, c.Beam[i]); from <= to {
			fill(k, from, row, to-from+1, 2)
		}
	}
	for i, row := range []int{4, 88} {
		if c.Triple[i] {
			stamp(k, font.Digits, 3, 8, row)
		}
	}
	for i, letter := range []byte(c.Text) {
		stamp(k, font.Letters, 1+strings.IndexByte("abcdefghijklmnopqrstuvwxyz-", letter), 2+5*i, 96)
	}
}

// beamColumns has the first and the last column of a beam.
func beamColumns(i, value int) (from, to int) {
	above := [][2]int{{1, 0}, {14, 16}, {14, 23}, {0, 12}, {0, 23}}
	below := [][2]int{{1, 0}, {7, 9}, {7, 23}, {0, 5}, {0, 23}}
	if i < 2 {
		return above[value][0], above[value][1]
	}
	return below[value][0], below[value][1]
}

// linedOf returns an image of a cell with the staff lines.
func linedOf(k api.Ink) api.Ink {
	out := twin(k)
	for _, y := range []int{36, 42, 48, 54, 60} {
		fill(out, 0, y, 24, 1)
	}
	return out
}

// bareOf returns an image of a cell without the staff lines.
func bareOf(k api.Ink) api.Ink {
	out := twin(k)
	for _, y := range []int{36, 42, 48, 54, 60} {
		for x := range 24 {
			out.Pix[y*24+x] = k.Pix[(y-1)*24+x] | k.Pix[(y+1)*24+x]
		}
	}
	return out
}

// picture is a value of a feature, and what is compared with its window.
type picture struct {
	value int
	image api.Ink
}

// picturesOf returns the pictures of a feature by the table. The windows of a beam stand beside each other.
func picturesOf(w api.What, index int) []picture {
	switch w {
	case api.WClef:
		var l []picture
		for clef := api.Treble; clef <= api.Bass; clef++ {
			k := bareOf(linedOf(drawnOf(api.Cell{Kind: api.ClefCell, Clef: clef})))
			l = append(l, picture{int(clef), cut(k, api.Rect{X: 7, Y: 36, W: 6, H: 25})})
		}
		return l
	case api.WKey:
		l := []picture{{0, plain(4, 31, 0)}}
		for i, key := range []int{4, -4} {
			k := bareOf(linedOf(drawnOf(api.Cell{Kind: api.KeyCell, Key: key})))
			l = append(l, picture{i + 1, cut(k, api.Rect{X: 1 + 5*index, Y: 30, W: 4, H: 31})})
		}
		return l
	case api.WBeats:
		return glyphs(font.Digits, false, []int{2}, 1, 2, 3, 4, 5, 6, 7, 8, 9)
	case api.WUnit:
		return glyphs(font.Digits, false, []int{2}, 2, 4, 8)
	case api.WBar:
		return glyphs(font.Bars, false, []int{0, 6, 12, 18, 24}, 1, 2, 3, 4, 5)
	case api.WFree:
		return append(glyphs(font.Marks, false, nil, 1), picture{0, plain(2, 4, 0)})
	}
	return eventPictures(w, index)
}

// eventPictures returns the pictures of a feature of a cell for events.
func eventPictures(w api.What, index int) []picture {
	var onLine []int
	if slices.Contains([]int{0, 2, 4, 6, 8}, index) {
		onLine = []int{2}
	}
	switch w {
	case api.WHead:
		if slices.Contains([]int{-4, -2, 10, 12}, index) {
			return glyphs(font.Heads, true, []int{2}, 1, 2, 3)
		}
		return glyphs(font.Heads, false, nil, 1, 2, 3)
	case api.WAcc:
		return append(glyphs(font.Accs, false, onLine, 1, 2, 3), picture{0, plain(4, 5, 0)})
	case api.WDot:
		return append(glyphs(font.Dots, false, onLine, 1), picture{0, plain(2, 5, 0)})
	case api.WTie:
		return append(glyphs(font.Ties, false, onLine, 1), picture{0, plain(3, 5, 0)})
	case api.WRest:
		return append(glyphs(font.Rests, false, [][]int{{3}, nil, nil}[index], 1, 2, 4, 8, 16), picture{0, plain(6, 7, 0)})
	case api.WRestDot:
		return append(glyphs(font.Dots, false, [][]int{{2}, nil, nil}[index], 1), picture{0, plain(2, 5, 0)})
	case api.WStem:
		return []picture{{0, plain(1, 5, 0)}, {1, plain(1, 5, 1)}}
	case api.WTriple:
		three, _ := font.Glyph(font.Digits, 3)
		return []picture{{0, plain(4, 5, 0)}, {1, three}}
	case api.WText:
		l := []picture{{0, plain(4, 5, 0)}}
		for letter := 1; letter <= 27; letter++ {
			l = append(l, glyphs(font.Letters, false, nil, letter)...)
		}
		return l
	}
	var l []picture
	for value := 0; value <= 4; value++ {
		k := plain(24, 2, 0)
		if from, to := beamColumns(index, value); from <= to {
			fill(k, from, 0, to-from+1, 2)
		}
		l = append(l, picture{value, without(k, []int{13, 13, 6, 6}[index])})
	}
	return l
}

// glyphs returns pictures of glyphs, with lines or dressed with them.
func glyphs(s font.Set, lined bool, lines []int, values ...int) []picture {
	var l []picture
	for _, v := range values {
		g, _ := font.Glyph(s, v)
		if lined {
			g = font.Lined(g, lines)
		} else {
			g = font.Dress(g, lines)
		}
		l = append(l, picture{v, g})
	}
	return l
}

// cut returns a part that lies in an image.
func cut(k api.Ink, r api.Rect) api.Ink {
	out := api.Ink{W: r.W, H: r.H}
	for y := r.Y; y < r.Y+r.H; y++ {
		out.Pix = append(out.Pix, k.Pix[y*k.W+r.X:y*k.W+r.X+r.W]...)
	}
	return out
}

// without returns an image of two rows without one of its 24 columns.
func without(k api.Ink, column int) api.Ink {
	return api.Ink{W: 23, H: 2, Pix: bytes.Join([][]byte{k.Pix[:column], k.Pix[column+1 : 24+column], k.Pix[24+column+1:]}, nil)}
}

// windowOf returns what an image has in the window of a feature. The windows of a beam stand beside each other.
func windowOf(k api.Ink, w api.What, index int) api.Ink {
	if w != api.WBeam {
		return cut(k, windowsOf(w, index)[0])
	}
	row := []int{12, 15, 83, 80}[index]
	return without(cut(k, api.Rect{Y: row, W: 24, H: 2}), []int{13, 13, 6, 6}[index])
}

// windowsOf is Windows by the table.
func windowsOf(w api.What, index int) []api.Rect {
	step, zone := api.Rect{Y: 58 - 3*index, H: 5}, api.Rect{}
	if index >= 0 && index <= 2 {
		zone.Y = []int{48, 30, 66}[index]
	}
	switch {
	case w == api.WClef && index == 0:
		return []api.Rect{{X: 7, Y: 36, W: 6, H: 25}}
	case w == api.WKey && index >= 0 && index <= 3:
		return []api.Rect{{X: 1 + 5*index, Y: 30, W: 4, H: 31}}
	case w == api.WBeats && index == 0:
		return []api.Rect{{X: 8, Y: 40, W: 4, H: 5}}
	case w == api.WUnit && index == 0:
		return []api.Rect{{X: 8, Y: 52, W: 4, H: 5}}
	case w == api.WBar && index == 0:
		return []api.Rect{{X: 6, Y: 36, W: 10, H: 25}}
	case w == api.WFree && index == 0:
		return []api.Rect{{X: 11, Y: 26, W: 2, H: 4}}
	case w >= api.WHead && w <= api.WTie && index >= -4 && index <= 12:
		step.X = []int{7, 1, 17, 20}[w-api.WHead]
		step.W = []int{6, 4, 2, 3}[w-api.WHead]
		return []api.Rect{step}
	case w == api.WRest && zone.Y > 0:
		return []api.Rect{{X: 7, Y: zone.Y - 3, W: 6, H: 7}}
	case w == api.WRestDot && zone.Y > 0:
		return []api.Rect{{X: 17, Y: zone.Y - 2, W: 2, H: 5}}
	case w == api.WStem && index >= 0 && index <= 1:
		return []api.Rect{{X: []int{13, 6}[index], Y: []int{17, 75}[index], W: 1, H: 5}}
	case w == api.WBeam && index >= 0 && index <= 1:
		y := []int{12, 15}[index]
		return []api.Rect{{X: 0, Y: y, W: 13, H: 2}, {X: 14, Y: y, W: 10, H: 2}}
	case w == api.WBeam && index >= 2 && index <= 3:
		y := []int{83, 80}[index-2]
		return []api.Rect{{X: 0, Y: y, W: 6, H: 2}, {X: 7, Y: y, W: 17, H: 2}}
	case w == api.WTriple && index >= 0 && index <= 1:
		return []api.Rect{{X: 8, Y: []int{4, 88}[index], W: 4, H: 5}}
	case w == api.WText && index >= 0 && index <= 3:
		return []api.Rect{{X: 2 + 5*index, Y: 96, W: 4, H: 5}}
	}
	return nil
}

// optionsOf returns the options of a feature by the table.
func optionsOf(k api.Ink, w api.What, index int) []api.Option {
	seen := windowOf(k, w, index)
	var l []api.Option
	for _, p := range picturesOf(w, index) {
		n := 0
		for i := range seen.Pix {
			n += int(seen.Pix[i] ^ p.image.Pix[i])
		}
		l = append(l, api.Option{Value: p.value, Miss: n})
	}
	slices.SortFunc(l, func(a, b api.Option) int {
		return cmp.Or(cmp.Compare(a.Miss, b.Miss), cmp.Compare(a.Value, b.Value))
	})
	return l
}

// seenOf is Seen by its definition.
func seenOf(k api.Ink) []api.Head {
	var l []api.Head
	for miss := 0; miss <= 3; miss++ {
		for step := -4; step <= 12; step++ {
			best := optionsOf(k, api.WHead, step)[0]
			near := slices.ContainsFunc(l, func(h api.Head) bool { return h.Step >= step-1 && h.Step <= step+1 })
			if best.Miss == miss && !near {
				l = append(l, api.Head{Step: step, Kind: best.Value})
			}
		}
	}
	slices.SortFunc(l, func(a, b api.Head) int { return a.Step - b.Step })
	return l
}

// readOf is Read by its definition, for an image and a kind that are right.
func readOf(k api.Ink, kind api.Kind) []api.Feature {
	var l []api.Feature
	add := func(w api.What, index int) {
		l = append(l, api.Feature{Place: api.Place{What: w, Index: index}, Options: optionsOf(k, w, index)})
	}
	all := func(w api.What, n int) {
		for i := range n {
			add(w, i)
		}
	}
	switch kind {
	case api.ClefCell:
		all(api.WClef, 1)
	case api.KeyCell:
		all(api.WKey, 4)
	case api.MeterCell:
		all(api.WBeats, 1)
		all(api.WUnit, 1)
	case api.BarCell:
		all(api.WBar, 1)
		all(api.WFree, 1)
	case api.EventCell:
		above, below := false, false
		heads := seenOf(k)
		for _, h := range heads {
			above, below = above || h.Step >= 5, below || h.Step <= 3
			for w := api.WHead; w <= api.WTie; w++ {
				add(w, h.Step)
			}
		}
		for zone, looked := range []bool{len(heads) == 0, !above, !below} {
			if looked {
				add(api.WRest, zone)
				add(api.WRestDot, zone)
			}
		}
		all(api.WStem, 2)
		all(api.WBeam, 4)
		all(api.WTriple, 2)
		all(api.WText, 4)
	}
	return l
}
