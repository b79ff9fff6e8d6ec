package clean

import (
	"math"

	"custos/api"
	"custos/image"
)

// middle is the threshold of an image that has not two levels.
const middle = 128

// Level returns the threshold of a grey image.
func Level(g api.Grey) (int, api.Errno) {
	counts, e := image.Levels(g)
	if e != api.OK {
		return 0, e
	}
	level, widest, before := middle, 0, -1
	for b, n := range counts {
		if n == 0 {
			continue
		}
		if a := before; a >= 0 && b-a > widest {
			level, widest = (a+b+1)/2, b-a
		}
		before = b
	}
	return level, api.OK
}

// Grey returns a grey image of two levels.
func Grey(ink api.Ink, dark, light int) (api.Grey, api.Errno) {
	if e := image.Check(ink); e != api.OK {
		return api.Grey{}, e
	}
	if !isLevel(dark) || !isLevel(light) {
		return api.Grey{}, api.ErrArg
	}
	levels := [2]byte{byte(light), byte(dark)}
	out := api.Grey{W: ink.W, H: ink.H, Pix: make([]byte, len(ink.Pix))}
	for i, p := range ink.Pix {
		out.Pix[i] = levels[p]
	}
	return out, api.OK
}

// isLevel reports whether a number is a grey level.
func isLevel(n int) bool {
	return n >= 0 && n <= math.MaxUint8
}
