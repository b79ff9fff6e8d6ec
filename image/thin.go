package image

import (
	"bytes"

	"custos/api"
)

// Thin returns a thinned image.
func Thin(g api.Ink) (api.Ink, api.Errno) {
	if e := Check(g); e != api.OK {
		return api.Ink{}, e
	}
	out := twin(g)
	// Whether a pixel goes depends on its neighbours alone: one that has stayed is due again only when one of them has gone.
	due := bytes.Clone(g.Pix)
rounds:
	for {
		for i := 0; ; i++ {
			n := bytes.IndexByte(due[i:], 1)
			if n < 0 && i == 0 {
				break rounds
			}
			if n < 0 {
				continue rounds
			}
			i += n
			due[i] = 0
			if goes(out, i%g.W, i/g.W) {
				out.Pix[i] = 0
				disturb(out, due, i%g.W, i/g.W)
			}
		}
	}
	return out, api.OK
}

// disturb makes the ink around a pixel due.
func disturb(g api.Ink, due []byte, x, y int) {
	for _, d := range around {
		if ink(g, x+d.X, y+d.Y) {
			due[(y+d.Y)*g.W+x+d.X] = 1
		}
	}
}

// goes reports whether an ink pixel is simple and not an end.
func goes(g api.Ink, x, y int) bool {
	var ring [8]bool
	neighbours := 0
	for k, d := range around {
		ring[k] = ink(g, x+d.X, y+d.Y)
		if ring[k] {
			neighbours++
		}
	}
	return pieces(ring) == 1 && neighbours > 1
}

// pieces returns the number of components of a ring of neighbours, and 0 if none of the four is paper. Clockwise, each component begins behind one of the four that is paper, since a corner that is paper does not part the two beside it.
func pieces(ring [8]bool) int {
	n := 0
	for k := 0; k < 8; k += 2 {
		if !ring[k] && (ring[k+1] || ring[(k+2)%8]) {
			n++
		}
	}
	return n
}
