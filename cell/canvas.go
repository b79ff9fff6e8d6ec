package cell

import (
	"strings"

	"custos/api"
	"custos/font"
)

// letters has the characters of a text, each at its value; where there is none, a text has ended.
const letters = " abcdefghijklmnopqrstuvwxyz-"

// The rows at which the stems up begin, and the stems down end.
const (
	stemTop    = 12
	stemBottom = 84
)

// keySteps has the steps of the signs of a key.
var keySteps = [...][keySigns]int{1: {8, 5, 9, 6}, 2: {4, 7, 3, 6}}

// canvas is an image of a cell on which something is drawn.
type canvas struct{ api.Ink }

// blank returns a canvas of paper.
func blank() *canvas {
	return &canvas{api.Ink{W: Width, H: Height, Pix: make([]byte, Width*Height)}}
}

// draw returns a canvas with a cell, but without the staff lines.
func draw(c api.Cell) *canvas {
	k := blank()
	drawings()[c.Kind](k, c)
	return k
}

// drawings says what is drawn of each kind.
func drawings() map[api.Kind]func(*canvas, api.Cell) {
	return map[api.Kind]func(*canvas, api.Cell){
		api.ClefCell:  (*canvas).clef,
		api.KeyCell:   (*canvas).key,
		api.MeterCell: (*canvas).meter,
		api.EventCell: (*canvas).event,
		api.BarCell:   (*canvas).bar,
	}
}

func (k *canvas) clef(c api.Cell) {
	k.put(api.WClef, 0, int(c.Clef))
}

func (k *canvas) key(c api.Cell) {
	for i, sign := range signsOf(c.Key) {
		k.put(api.WKey, i, sign)
	}
}

func (k *canvas) meter(c api.Cell) {
	k.put(api.WBeats, 0, c.Beats)
	k.put(api.WUnit, 0, c.Unit)
}

func (k *canvas) bar(c api.Cell) {
	k.put(api.WBar, 0, int(c.Bar))
	k.put(api.WFree, 0, number(c.Free))
}

func (k *canvas) event(c api.Cell) {
	for _, h := range c.Heads {
		k.put(api.WHead, h.Step, h.Kind)
		k.put(api.WAcc, h.Step, h.Acc)
		k.put(api.WDot, h.Step, number(h.Dot))
		k.put(api.WTie, h.Step, number(h.Tie))
	}
	for zone, rest := range c.Rest {
		k.put(api.WRest, zone, int(rest))
		k.put(api.WRestDot, zone, number(c.RestDot[zone]))
	}
	for side, stem := range c.Stem {
		if stem {
			k.fill(stemRect(c, side))
		}
		k.put(api.WTriple, side, number(c.Triple[side]))
	}
	for i, beam := range c.Beam {
		k.put(api.WBeam, i, beam)
	}
	for i := range c.Text {
		k.put(api.WText, i, strings.IndexByte(letters, c.Text[i]))
	}
}

// put draws what a value of a feature stands for; of a stem, the part that it has with all heads.
func (k *canvas) put(w api.What, index, value int) {
	switch {
	case value == 0:
	case w == api.WStem:
		k.fill(window(w, index))
	case w == api.WBeam:
		k.fill(beamRect(index, value))
	default:
		k.putGlyph(w, index, value)
	}
}

// putGlyph draws the glyph that a value of a feature stands for; a head with its ledger lines.
func (k *canvas) putGlyph(w api.What, index, value int) {
	at := window(w, index)
	switch w {
	case api.WClef:
		at.Y = Row(2*value) - 2
	case api.WKey:
		at.Y = Row(keySteps[value][index]) - 2
	case api.WHead:
		k.fill(ledgers(index)...)
	case api.WTriple:
		value = 3
	}
	k.stamp(questions[w].set, value, at.X, at.Y)
}

// stamp draws a glyph at a point.
func (k *canvas) stamp(s font.Set, value, x, y int) {
	g, _ := font.Glyph(s, value)
	for _, p := range font.Pixels(g, api.Rect{W: g.W, H: g.H}) {
		k.Pix[(y+p.Y)*k.W+x+p.X] = 1
	}
}

// fill makes rectangles ink.
func (k *canvas) fill(l ...api.Rect) {
	for _, r := range l {
		for y := r.Y; y < r.Y+r.H; y++ {
			for x := r.X; x < r.X+r.W; x++ {
				k.Pix[y*k.W+x] = 1
			}
		}
	}
}

// ledgers returns the ledger lines of a head.
func ledgers(step int) []api.Rect {
	var l []api.Rect
	for s := topLine + lineSpacing; s <= step; s += lineSpacing {
		l = append(l, about(Row(s), headColumn-1, 8, 1))
	}
	for s := bottomLine - lineSpacing; s >= step; s -= lineSpacing {
		l = append(l, about(Row(s), headColumn-1, 8, 1))
	}
	return l
}

// stemRect returns where the stem of a side is ink.
func stemRect(c api.Cell, side int) api.Rect {
	heads := stemHeads(c, side)
	top, bottom := stemTop, Row(heads[0].Step)
	if side == down {
		top, bottom = Row(heads[len(heads)-1].Step), stemBottom
	}
	return api.Rect{X: stemColumns[side], Y: top, W: 1, H: bottom - top + 1}
}

// signsOf returns the values of the features of a key.
func signsOf(key int) [keySigns]int {
	var l [keySigns]int
	for i := range l {
		switch {
		case i < key:
			l[i] = 1
		case i < -key:
			l[i] = 2
		}
	}
	return l
}

// number returns 1 if something is so, and 0 otherwise.
func number(so bool) int {
	if so {
		return 1
	}
	return 0
}
