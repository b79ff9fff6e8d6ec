package cell_test

import (
	"math/rand"
	"slices"
	"testing"

	"custos/api"
	"custos/cell"
)

// back reports an error if a valid cell is not read from its bare image.
func back(t *testing.T, c api.Cell) {
	t.Helper()
	k := bare(t, c)
	l := features(t, k, c.Kind)
	for _, f := range l {
		if f.Options[0].Miss != 0 || f.Options[1].Miss == 0 {
			t.Errorf("%+v: the feature %v", c, f)
		}
	}
	if got, e := cell.Make(c.Kind, l, make([]int, len(l))); e != api.OK || !equal(got, c) {
		t.Errorf("error %d: %+v, want %+v", e, got, c)
	}
	if m, e := cell.Miss(c, k); m != 0 || e != api.OK {
		t.Errorf("%+v: Miss is %d, error %d", c, m, e)
	}
	if c.Kind == api.BarCell || c.Kind == api.EventCell {
		if cell.IsBar(k) != (c.Kind == api.BarCell) {
			t.Errorf("IsBar of %+v", c)
		}
	}
}

func TestOrdinaryBack(t *testing.T) {
	for _, c := range ordinary() {
		back(t, c)
	}
}

func TestEventsBack(t *testing.T) {
	back(t, full())
	back(t, event(nil))
	r := rand.New(rand.NewSource(9))
	for range 1000 {
		back(t, someEvent(r))
	}
}

// TestRestsBack has all rests that may stand together.
func TestRestsBack(t *testing.T) {
	for _, middle := range restValues {
		for _, upper := range restValues {
			for _, lower := range restValues {
				if c := rest(middle, upper, lower); rightCell(c) {
					back(t, c)
					for zone, value := range c.Rest {
						c.RestDot[zone] = value != 0
					}
					back(t, c)
				}
			}
		}
	}
}

// TestHeadsBack has each head alone, with all that belongs to it, and each pair of heads of one kind.
func TestHeadsBack(t *testing.T) {
	for step := -4; step <= 12; step++ {
		for code := range 3 * 4 * 2 * 2 {
			back(t, event([]api.Head{{Step: step, Kind: 1 + code%3, Acc: code / 3 % 4, Dot: code/12%2 == 1, Tie: code/24 == 1}}))
		}
		for high := step + 2; high <= 12; high++ {
			l := black(step, high)
			l[0].Kind, l[1].Kind = 1+step&1, 1+high&1
			back(t, api.Cell{Kind: api.EventCell, Heads: l, Stem: [2]bool{step < 5, high > 4}})
		}
	}
}

// TestTextsBack has all letters at all places, and all beams.
func TestTextsBack(t *testing.T) {
	for letter := byte('a'); letter <= 'z'; letter++ {
		for n := 1; n <= 4; n++ {
			word := string(slices.Repeat([]byte{letter}, n))
			back(t, api.Cell{Kind: api.EventCell, Text: word})
			back(t, api.Cell{Kind: api.EventCell, Text: word[1:] + "a-"[max(n-3, 0):min(n, 2)]})
		}
	}
	for code := range 5 * 5 * 5 * 5 {
		if code%7 == 0 {
			back(t, api.Cell{Kind: api.EventCell, Beam: [4]int{code % 5, code / 5 % 5, code / 25 % 5, code / 125}})
		}
	}
}

// TestNoBars has all heads of one kind that come near to a barline, and heads of several kinds, with all stems.
func TestNoBars(t *testing.T) {
	r := rand.New(rand.NewSource(10))
	for kind := 1; kind <= 4; kind++ {
		for set := range 1 << 11 {
			if set&(set>>1) != 0 {
				continue
			}
			var l []api.Head
			for i := range 11 {
				if set>>i&1 == 1 {
					l = append(l, api.Head{Step: i - 1, Kind: kind})
				}
			}
			for i := range l {
				if kind == 4 {
					l[i].Kind = 1 + r.Intn(3)
				}
			}
			for stems := range 4 {
				c := api.Cell{Kind: api.EventCell, Heads: l, Stem: [2]bool{stems&1 == 1, stems&2 == 2}}
				if k, e := cell.Bare(c); e == api.OK && cell.IsBar(k) {
					t.Errorf("a barline: %+v", c)
				}
			}
		}
	}
}
