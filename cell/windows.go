package cell

import "custos/api"

// The columns at which what belongs to a head, a rest, a meter or a text begins.
const (
	accColumn   = 1
	keyColumn   = 1
	textColumn  = 2
	headColumn  = 7
	digitColumn = 8
	dotColumn   = 17
	tieColumn   = 20
	advance     = 5 // from a sign of a key, or a letter, to the next one
)

// The steps of the digits of a meter.
const (
	beatsStep = 6
	unitStep  = 2
)

// The steps of the zones, and the rows at which what stands above and below a staff begins.
var (
	zoneSteps   = [zones]int{middle: 4, upper: 10, lower: -2}
	stemColumns = [sides]int{up: 13, down: 6}
	stemRows    = [sides]int{up: 17, down: 75}
	tripleRows  = [sides]int{up: 4, down: 88}
	beamRows    = [beams]int{12, 15, 83, 80}
)

// Windows returns the rectangles of the window of a feature.
func Windows(w api.What, index int) []api.Rect {
	switch {
	case !isPlace(w, index):
		return nil
	case w == api.WBeam:
		return []api.Rect{beamRect(index, 3), beamRect(index, 2)}
	}
	return []api.Rect{window(w, index)}
}

// window returns the window of a feature that has one rectangle.
func window(w api.What, index int) api.Rect {
	switch w {
	case api.WClef:
		return api.Rect{X: headColumn, Y: Row(topLine), W: 6, H: 25}
	case api.WKey:
		return api.Rect{X: keyColumn + advance*index, Y: 30, W: 4, H: 31}
	case api.WBeats:
		return about(Row(beatsStep), digitColumn, 4, 5)
	case api.WUnit:
		return about(Row(unitStep), digitColumn, 4, 5)
	case api.WBar:
		return api.Rect{X: 6, Y: Row(topLine), W: 10, H: 25}
	case api.WFree:
		return api.Rect{X: 11, Y: 26, W: 2, H: 4}
	case api.WHead:
		return about(Row(index), headColumn, 6, 5)
	case api.WAcc:
		return about(Row(index), accColumn, 4, 5)
	case api.WDot:
		return about(Row(index), dotColumn, 2, 5)
	case api.WTie:
		return about(Row(index), tieColumn, 3, 5)
	case api.WRest:
		return about(Row(zoneSteps[index]), headColumn, 6, 7)
	case api.WRestDot:
		return about(Row(zoneSteps[index]), dotColumn, 2, 5)
	case api.WStem:
		return api.Rect{X: stemColumns[index], Y: stemRows[index], W: 1, H: 5}
	case api.WTriple:
		return api.Rect{X: digitColumn, Y: tripleRows[index], W: 4, H: 5}
	}
	return api.Rect{X: textColumn + advance*index, Y: 96, W: 4, H: 5}
}

// about returns the rectangle whose middle row is y.
func about(y, x, w, h int) api.Rect {
	return api.Rect{X: x, Y: y - h/2, W: w, H: h}
}

// beamRect returns where a beam of a value that is not 0 is ink.
func beamRect(index, value int) api.Rect {
	x, r := stemColumns[index/2], api.Rect{Y: beamRows[index], W: Width, H: 2}
	switch value {
	case 1:
		r.X, r.W = x+1, 3
	case 2:
		r.X, r.W = x+1, Width-x-1
	case 3:
		r.W = x
	}
	return r
}
