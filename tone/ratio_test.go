package tone_test

import (
	"math"
	"math/big"
	"math/rand"
	"testing"

	"custos/api"
	"custos/tone"
)

// call is a function of two fractions, and how big computes it.
type call struct {
	name string
	ours func(a, b api.Ratio) (api.Ratio, api.Errno)
	big  func(z, a, b *big.Rat) *big.Rat
}

// calls returns all functions of two fractions with a fraction as their result.
func calls() []call {
	return []call{
		{"Add", tone.Add, (*big.Rat).Add},
		{"Sub", tone.Sub, (*big.Rat).Sub},
		{"Mul", tone.Mul, (*big.Rat).Mul},
		{"Div", tone.Div, (*big.Rat).Quo},
	}
}

// lowest returns a number as a fraction, with the error of a fraction that is not valid.
func lowest(r *big.Rat) (api.Ratio, api.Errno) {
	most := big.NewInt(tone.MaxPart)
	if r.Num().CmpAbs(most) > 0 || r.Denom().Cmp(most) > 0 {
		return api.Ratio{}, api.ErrRange
	}
	return ratio(int(r.Num().Int64()), int(r.Denom().Int64())), api.OK
}

// wide returns a fraction as a number.
func wide(r api.Ratio) *big.Rat {
	return big.NewRat(int64(r.N), int64(r.D))
}

// someRatios returns valid fractions: small ones, great ones, and some by chance.
func someRatios(r *rand.Rand) []api.Ratio {
	l := []api.Ratio{
		ratio(0, 1), ratio(1, 1), ratio(-1, 1), ratio(1, 2), ratio(-1, 2), ratio(3, 8), ratio(1, 12), ratio(-7, 3),
		ratio(tone.MaxPart, 1), ratio(-tone.MaxPart, 1), ratio(1, tone.MaxPart), ratio(-1, tone.MaxPart),
		ratio(tone.MaxPart, tone.MaxPart-1), ratio(tone.MaxPart-1, tone.MaxPart), ratio(1-tone.MaxPart, tone.MaxPart),
	}
	for len(l) < 60 {
		most := int64(1) << (2 + r.Intn(19))
		x, e := lowest(big.NewRat(r.Int63n(2*most+1)-most, 1+r.Int63n(most)))
		if e == api.OK {
			l = append(l, x)
		}
	}
	return l
}

// noRatios returns fractions that are not valid.
func noRatios() []api.Ratio {
	l := []api.Ratio{
		{}, ratio(1, 0), ratio(0, 2), ratio(0, -1), ratio(2, 4), ratio(-2, 4), ratio(2, 2), ratio(1, -1), ratio(-1, -2),
		ratio(tone.MaxPart+1, 1), ratio(-tone.MaxPart-1, 1), ratio(1, tone.MaxPart+1), ratio(3, 1<<30), ratio(tone.MaxPart, tone.MaxPart),
		ratio(tone.MaxPart, 2), ratio(1<<20-1, 3),
	}
	for _, n := range extremes {
		l = append(l, ratio(n, 1), ratio(1, n), ratio(n, n), ratio(n, 0), ratio(0, n), ratio(n, 3))
	}
	return l
}

func TestRatioExamples(t *testing.T) {
	for _, x := range []struct {
		n, d int
		want api.Ratio
		e    api.Errno
	}{
		{1, 2, ratio(1, 2), api.OK},
		{6, 8, ratio(3, 4), api.OK},
		{-6, 8, ratio(-3, 4), api.OK},
		{6, -8, ratio(-3, 4), api.OK},
		{-6, -8, ratio(3, 4), api.OK},
		{0, 7, ratio(0, 1), api.OK},
		{0, -7, ratio(0, 1), api.OK},
		{0, math.MinInt, ratio(0, 1), api.OK},
		{0, 0, api.Ratio{}, api.ErrArg},
		{5, 0, api.Ratio{}, api.ErrArg},
		{math.MinInt, 0, api.Ratio{}, api.ErrArg},
		{tone.MaxPart, 1, ratio(1<<20, 1), api.OK},
		{tone.MaxPart + 1, 1, api.Ratio{}, api.ErrRange},
		{-tone.MaxPart, 1, ratio(-1<<20, 1), api.OK},
		{-tone.MaxPart - 1, 1, api.Ratio{}, api.ErrRange},
		{1, tone.MaxPart, ratio(1, 1<<20), api.OK},
		{1, tone.MaxPart + 1, api.Ratio{}, api.ErrRange},
		{1, -tone.MaxPart - 1, api.Ratio{}, api.ErrRange},
		{2 * tone.MaxPart, 2, ratio(1<<20, 1), api.OK},
		{2, 2 * tone.MaxPart, ratio(1, 1<<20), api.OK},
		{math.MinInt, math.MinInt, ratio(1, 1), api.OK},
		{math.MaxInt, math.MaxInt, ratio(1, 1), api.OK},
		{-math.MaxInt, math.MaxInt, ratio(-1, 1), api.OK},
		{math.MinInt, 1 << 62, ratio(-2, 1), api.OK},
		{1 << 62, math.MinInt, ratio(-1, 2), api.OK},
		{math.MinInt, -1 << 43, ratio(1<<20, 1), api.OK},
		{math.MinInt, -1 << 42, api.Ratio{}, api.ErrRange},
		{math.MinInt, 1, api.Ratio{}, api.ErrRange},
		{1, math.MinInt, api.Ratio{}, api.ErrRange},
		{math.MinInt, math.MaxInt, api.Ratio{}, api.ErrRange},
	} {
		if r, e := tone.Ratio(x.n, x.d); r != x.want || e != x.e {
			t.Errorf("Ratio(%d, %d): %v, %d", x.n, x.d, r, e)
		}
	}
}

func TestRatioOfAllNumbers(t *testing.T) {
	r := rand.New(rand.NewSource(51))
	for range 20000 {
		n, d := int(r.Uint64())>>r.Intn(64), int(r.Uint64())>>r.Intn(64)
		if r.Intn(3) == 0 {
			n, d = n>>24*(1+r.Intn(9)), n>>24*(r.Intn(9)-4)
		}
		want, wantE := api.Ratio{}, api.ErrArg
		if d != 0 {
			want, wantE = lowest(big.NewRat(int64(n), int64(d)))
		}
		if x, e := tone.Ratio(n, d); x != want || e != wantE {
			t.Fatalf("Ratio(%d, %d): %v, %d, not %v, %d", n, d, x, e, want, wantE)
		}
	}
}

func TestFractions(t *testing.T) {
	l := someRatios(rand.New(rand.NewSource(52)))
	for _, a := range l {
		for _, b := range l {
			for _, c := range calls() {
				want, wantE := api.Ratio{}, api.ErrArg
				if c.name != "Div" || b.N != 0 {
					want, wantE = lowest(c.big(new(big.Rat), wide(a), wide(b)))
				}
				if x, e := c.ours(a, b); x != want || e != wantE {
					t.Fatalf("%s(%v, %v): %v, %d, not %v, %d", c.name, a, b, x, e, want, wantE)
				}
			}
			if n, e := tone.Cmp(a, b); n != wide(a).Cmp(wide(b)) || e != api.OK {
				t.Fatalf("Cmp(%v, %v): %d, %d", a, b, n, e)
			}
		}
	}
}

func TestFractionExamples(t *testing.T) {
	for _, x := range []struct {
		name string
		got  func(a, b api.Ratio) (api.Ratio, api.Errno)
		a, b api.Ratio
		want api.Ratio
		e    api.Errno
	}{
		{"Add", tone.Add, ratio(1, 3), ratio(1, 6), ratio(1, 2), api.OK},
		{"Add", tone.Add, ratio(1, 3), ratio(-1, 3), ratio(0, 1), api.OK},
		{"Add", tone.Add, ratio(tone.MaxPart, 1), ratio(1, 1), api.Ratio{}, api.ErrRange},
		{"Add", tone.Add, ratio(1, 1<<20), ratio(1, 3), api.Ratio{}, api.ErrRange},
		{"Sub", tone.Sub, ratio(-tone.MaxPart, 1), ratio(1, 1), api.Ratio{}, api.ErrRange},
		{"Sub", tone.Sub, ratio(1, 6), ratio(1, 3), ratio(-1, 6), api.OK},
		{"Mul", tone.Mul, ratio(tone.MaxPart, 1), ratio(1, tone.MaxPart), ratio(1, 1), api.OK},
		{"Mul", tone.Mul, ratio(1, 1<<11), ratio(1, 1<<10), api.Ratio{}, api.ErrRange},
		{"Div", tone.Div, ratio(1, 2), ratio(-1, 4), ratio(-2, 1), api.OK},
		{"Div", tone.Div, ratio(1, 2), ratio(0, 1), api.Ratio{}, api.ErrArg},
		{"Div", tone.Div, ratio(0, 1), ratio(0, 1), api.Ratio{}, api.ErrArg},
		{"Div", tone.Div, ratio(tone.MaxPart, 1), ratio(1, 2), api.Ratio{}, api.ErrRange},
	} {
		if r, e := x.got(x.a, x.b); r != x.want || e != x.e {
			t.Errorf("%s(%v, %v): %v, %d", x.name, x.a, x.b, r, e)
		}
	}
}

func TestFractionsThatAreNone(t *testing.T) {
	good := []api.Ratio{ratio(1, 2), ratio(0, 1), ratio(tone.MaxPart, 1)}
	for _, bad := range noRatios() {
		for _, other := range append(good, bad) {
			for _, c := range calls() {
				if r, e := c.ours(bad, other); r != (api.Ratio{}) || e != api.ErrArg {
					t.Errorf("%s(%v, %v): %v, %d", c.name, bad, other, r, e)
				}
				if r, e := c.ours(other, bad); r != (api.Ratio{}) || e != api.ErrArg {
					t.Errorf("%s(%v, %v): %v, %d", c.name, other, bad, r, e)
				}
			}
			if n, e := tone.Cmp(bad, other); n != 0 || e != api.ErrArg {
				t.Errorf("Cmp(%v, %v): %d, %d", bad, other, n, e)
			}
			if n, e := tone.Cmp(other, bad); n != 0 || e != api.ErrArg {
				t.Errorf("Cmp(%v, %v): %d, %d", other, bad, n, e)
			}
		}
	}
}

// TestField checks the laws of a field, where no result is out of range.
func TestField(t *testing.T) {
	var l []api.Ratio
	for n := -6; n <= 6; n++ {
		for d := 1; d <= 6; d++ {
			if r, e := tone.Ratio(n, d); e == api.OK && r.D == d {
				l = append(l, r)
			}
		}
	}
	do := func(c func(a, b api.Ratio) (api.Ratio, api.Errno), a, b api.Ratio) api.Ratio {
		r, e := c(a, b)
		if e != api.OK {
			t.Fatalf("%v and %v: error %d", a, b, e)
		}
		return r
	}
	zero, one := ratio(0, 1), ratio(1, 1)
	for _, a := range l {
		if do(tone.Add, a, zero) != a || do(tone.Mul, a, one) != a || do(tone.Mul, a, zero) != zero || do(tone.Sub, a, a) != zero {
			t.Error(a, "and zero, and one")
		}
		if a != zero && do(tone.Mul, a, do(tone.Div, one, a)) != one {
			t.Error(a, "and its inverse")
		}
		for _, b := range l {
			if do(tone.Add, a, b) != do(tone.Add, b, a) || do(tone.Mul, a, b) != do(tone.Mul, b, a) {
				t.Error(a, b, "commute")
			}
			if do(tone.Add, do(tone.Sub, a, b), b) != a || b != zero && do(tone.Mul, do(tone.Div, a, b), b) != a {
				t.Error(a, b, "there and back")
			}
			for _, c := range []api.Ratio{ratio(-5, 6), ratio(2, 1), ratio(3, 4)} {
				if do(tone.Add, do(tone.Add, a, b), c) != do(tone.Add, a, do(tone.Add, b, c)) || do(tone.Mul, do(tone.Mul, a, b), c) != do(tone.Mul, a, do(tone.Mul, b, c)) {
					t.Error(a, b, c, "are associated")
				}
				if do(tone.Mul, do(tone.Add, a, b), c) != do(tone.Add, do(tone.Mul, a, c), do(tone.Mul, b, c)) {
					t.Error(a, b, c, "are distributed")
				}
			}
		}
	}
}

func TestLength(t *testing.T) {
	for _, x := range []struct {
		v           api.Value
		dot, triple bool
		want        api.Ratio
	}{
		{api.Whole, false, false, ratio(1, 1)},
		{api.Whole, true, false, ratio(3, 2)},
		{api.Whole, false, true, ratio(2, 3)},
		{api.Whole, true, true, ratio(1, 1)},
		{api.Half, false, false, ratio(1, 2)},
		{api.Half, true, false, ratio(3, 4)},
		{api.Half, false, true, ratio(1, 3)},
		{api.Half, true, true, ratio(1, 2)},
		{api.Quarter, false, false, ratio(1, 4)},
		{api.Quarter, true, false, ratio(3, 8)},
		{api.Quarter, false, true, ratio(1, 6)},
		{api.Quarter, true, true, ratio(1, 4)},
		{api.Eighth, false, false, ratio(1, 8)},
		{api.Eighth, true, false, ratio(3, 16)},
		{api.Eighth, false, true, ratio(1, 12)},
		{api.Eighth, true, true, ratio(1, 8)},
		{api.Sixteenth, false, false, ratio(1, 16)},
		{api.Sixteenth, true, false, ratio(3, 32)},
		{api.Sixteenth, false, true, ratio(1, 24)},
		{api.Sixteenth, true, true, ratio(1, 16)},
	} {
		if r, e := tone.Length(x.v, x.dot, x.triple); r != x.want || e != api.OK {
			t.Errorf("Length(%d, %t, %t): %v, %d", x.v, x.dot, x.triple, r, e)
		}
	}
	for _, v := range append([]int{-16, -4, -2, -1, 0, 3, 5, 6, 7, 9, 12, 15, 17, 32, 64}, extremes...) {
		for _, flag := range []bool{false, true} {
			if r, e := tone.Length(api.Value(v), flag, !flag); r != (api.Ratio{}) || e != api.ErrValue {
				t.Errorf("Length(%d): %v, %d", v, r, e)
			}
		}
	}
}

func TestBar(t *testing.T) {
	for beats := 1; beats <= 9; beats++ {
		for _, unit := range []int{2, 4, 8} {
			want, _ := lowest(big.NewRat(int64(beats), int64(unit)))
			if r, e := tone.Bar(api.Meter{Beats: beats, Unit: unit}); r != want || e != api.OK {
				t.Errorf("Bar of %d beats of %d: %v, %d", beats, unit, r, e)
			}
		}
	}
	if r, e := tone.Bar(api.Meter{Beats: 6, Unit: 8}); r != ratio(3, 4) || e != api.OK {
		t.Errorf("Bar of 6 beats of 8: %v, %d", r, e)
	}
	var bad []api.Meter
	for _, beats := range append([]int{-4, -1, 0, 10, 11}, extremes...) {
		bad = append(bad, api.Meter{Beats: beats, Unit: 4})
	}
	for _, unit := range append([]int{-8, -4, -2, -1, 0, 1, 3, 5, 6, 7, 9, 16}, extremes...) {
		bad = append(bad, api.Meter{Beats: 4, Unit: unit})
	}
	for _, m := range bad {
		if r, e := tone.Bar(m); r != (api.Ratio{}) || e != api.ErrMeter {
			t.Errorf("Bar(%v): %v, %d", m, r, e)
		}
	}
}
