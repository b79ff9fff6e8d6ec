package image

import (
	"slices"

	"custos/api"
)

// Turn returns a turned image.
func Turn(g api.Ink, way int) (api.Ink, api.Errno) {
	if e := Check(g); e != api.OK {
		return api.Ink{}, e
	}
	if way < Same || way > Mirror+Left {
		return api.Ink{}, api.ErrArg
	}
	out := twin(g)
	if way >= Mirror {
		mirror(out)
	}
	for range way % Mirror {
		out = clockwise(out)
	}
	return out, api.OK
}

// mirror exchanges left and right in place.
func mirror(g api.Ink) {
	for y := range g.H {
		slices.Reverse(line(g, y))
	}
}

// clockwise returns the image turned by one right angle.
func clockwise(g api.Ink) api.Ink {
	out := blank(g.H, g.W)
	for y := range g.H {
		for x, p := range line(g, y) {
			out.Pix[x*out.W+g.H-1-y] = p
		}
	}
	return out
}
