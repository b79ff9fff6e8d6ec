package tone

import (
	"cmp"

	"custos/api"
)

// MaxPart is the limit of the parts of a fraction.
const MaxPart = 1 << 20

// operation is what is done with two fractions.
type operation struct {
	parts func(a, b api.Ratio) (n, d int) // of the result, not in lowest terms
}

// Ratio returns a fraction in lowest terms.
func Ratio(n, d int) (api.Ratio, api.Errno) {
	if d == 0 {
		return api.Ratio{}, api.ErrArg
	}
	above, below := size(n), size(d)
	by := divisor(above, below)
	above, below = above/by, below/by
	if above > MaxPart || below > MaxPart {
		return api.Ratio{}, api.ErrRange
	}
	r := api.Ratio{N: int(above), D: int(below)}
	if (n < 0) != (d < 0) {
		r.N = -r.N
	}
	return r, api.OK
}

// Add returns the sum of two fractions.
func Add(a, b api.Ratio) (api.Ratio, api.Errno) {
	sum := operation{func(a, b api.Ratio) (int, int) { return a.N*b.D + b.N*a.D, a.D * b.D }}
	return sum.apply(a, b)
}

// Sub returns the difference of two fractions.
func Sub(a, b api.Ratio) (api.Ratio, api.Errno) {
	difference := operation{func(a, b api.Ratio) (int, int) { return a.N*b.D - b.N*a.D, a.D * b.D }}
	return difference.apply(a, b)
}

// Mul returns the product of two fractions.
func Mul(a, b api.Ratio) (api.Ratio, api.Errno) {
	product := operation{func(a, b api.Ratio) (int, int) { return a.N * b.N, a.D * b.D }}
	return product.apply(a, b)
}

// Div returns the quotient of two fractions.
func Div(a, b api.Ratio) (api.Ratio, api.Errno) {
	quotient := operation{func(a, b api.Ratio) (int, int) { return a.N * b.D, a.D * b.N }}
	return quotient.apply(a, b)
}

// apply returns the result of an operation.
func (o operation) apply(a, b api.Ratio) (api.Ratio, api.Errno) {
	if !isRatio(a) || !isRatio(b) {
		return api.Ratio{}, api.ErrArg
	}
	return Ratio(o.parts(a, b))
}

// Cmp compares two fractions.
func Cmp(a, b api.Ratio) (int, api.Errno) {
	if !isRatio(a) || !isRatio(b) {
		return 0, api.ErrArg
	}
	return cmp.Compare(a.N*b.D, b.N*a.D), api.OK
}

// Length returns the length of a note.
func Length(v api.Value, dot, triple bool) (api.Ratio, api.Errno) {
	switch v {
	case api.Whole, api.Half, api.Quarter, api.Eighth, api.Sixteenth:
	default:
		return api.Ratio{}, api.ErrValue
	}
	n, d := 1, int(v)
	if dot {
		n, d = 3*n, 2*d
	}
	if triple {
		n, d = 2*n, 3*d
	}
	return Ratio(n, d)
}

// Bar returns the length of a measure.
func Bar(m api.Meter) (api.Ratio, api.Errno) {
	if !within(m.Beats, 1, 9) || m.Unit != 2 && m.Unit != 4 && m.Unit != 8 {
		return api.Ratio{}, api.ErrMeter
	}
	return Ratio(m.Beats, m.Unit)
}

// isRatio reports whether a fraction is valid.
func isRatio(r api.Ratio) bool {
	return within(r.N, -MaxPart, MaxPart) && within(r.D, 1, MaxPart) && divisor(size(r.N), size(r.D)) == 1
}

// size returns a number without its sign; it is not an int, since that of the least int is none.
func size(n int) uint {
	if n < 0 {
		return -uint(n)
	}
	return uint(n)
}

// divisor returns the greatest common divisor of two numbers.
func divisor(a, b uint) uint {
	for b != 0 {
		a, b = b, a%b
	}
	return a
}
