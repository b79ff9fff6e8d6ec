package image

import (
	"custos/api"
)

// levels is the number of grey levels.
const levels = 256

// Threshold returns the pixels that are less than a level.
func Threshold(g api.Grey, level int) (api.Ink, api.Errno) {
	if e := CheckGrey(g); e != api.OK {
		return api.Ink{}, e
	}
	if level < 0 || level > levels {
		return api.Ink{}, api.ErrArg
	}
	out := blank(g.W, g.H)
	for i, p := range g.Pix {
		if int(p) < level {
			out.Pix[i] = 1
		}
	}
	return out, api.OK
}

// Levels returns how many pixels have each grey level.
func Levels(g api.Grey) ([]int, api.Errno) {
	if e := CheckGrey(g); e != api.OK {
		return nil, e
	}
	l := make([]int, levels)
	for _, p := range g.Pix {
		l[p]++
	}
	return l, api.OK
}
