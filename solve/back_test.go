package solve_test

import (
	"math/rand"
	"slices"
	"testing"

	"custos/api"
	"custos/grammar"
	"custos/solve"
)

// doubt lets a few features of a case keep some of their options, and the others their best one.
func doubt(r *rand.Rand, c solve.Case) solve.Case {
	out, _ := solve.Trim(c, 0, 1)
	places := placesBy(c)
	for left := 100; left > 1; {
		n := r.Intn(len(places))
		options := places[n].Options[:1+r.Intn(min(4, len(places[n].Options)))]
		i := n
		for _, p := range places[:n] {
			if p.staff != places[n].staff || p.column != places[n].column {
				i--
			}
		}
		out.Cells[places[n].staff][places[n].column][i].Options = slices.Clone(options)
		left /= max(len(options), 2)
	}
	return out
}

// TestPages has the features of pages without dirt: the best options are without a Miss, and their choice is the solution.
func TestPages(t *testing.T) {
	r := rand.New(rand.NewSource(4))
	more := 0
	for i, x := range fitting(5, 120) {
		c := doubt(r, x.c)
		got, e := solve.Best(c, weights(r), 3)
		if e != api.OK || len(got.Solutions) == 0 || len(got.Rejected) > 0 && got.Solutions[0].Cost > 0 {
			t.Fatalf("case %d: %+v, error %d", i, got, e)
		}
		for n, s := range got.Solutions {
			if (n == 0) != (s.Cost == 0) {
				t.Errorf("case %d: solution %d costs %d", i, n, s.Cost)
			}
		}
		first := got.Solutions[0]
		if slices.Max(first.Choice) != 0 || !same(first.Measures, x.measures) {
			t.Errorf("case %d: %+v, want %+v", i, first, x.measures)
		}
		more += len(got.Solutions) - 1
	}
	if more < 50 {
		t.Errorf("%d more solutions", more)
	}
}

// spoilt gives the features of pages other misses.
func spoilt(r *rand.Rand, c solve.Case) solve.Case {
	out := doubt(r, c)
	for _, s := range out.Cells {
		for _, l := range s {
			for _, f := range l {
				for i := range f.Options {
					f.Options[i].Miss = r.Intn(5)
				}
			}
		}
	}
	return out
}

// TestCertificates checks each solution, and that a result leaves out no choice before the last one.
func TestCertificates(t *testing.T) {
	r := rand.New(rand.NewSource(6))
	solutions := 0
	for i, x := range fitting(7, 120) {
		c, w, k := spoilt(r, x.c), weights(r), 1+r.Intn(4)
		got, e := solve.Best(c, w, k)
		if e != api.OK {
			t.Fatalf("case %d: error %d", i, e)
		}
		passed := map[string]int{}
		for _, s := range got.Solutions {
			cells, e := solve.Cells(c, s.Choice)
			m, _, f := grammar.Read(c.Frame, cells)
			cost, g := solve.Cost(c, w, s.Choice)
			if e != api.OK || f != api.OK || g != api.OK || !same(m, s.Measures) || cost != s.Cost {
				t.Fatalf("case %d: %+v is no solution", i, s)
			}
			passed[key(s.Choice)]++
		}
		for _, s := range got.Rejected {
			cells, e := solve.Cells(c, s.Choice)
			if e == api.OK {
				_, _, e = grammar.Read(c.Frame, cells)
			}
			if e == api.OK || e != s.Fault {
				t.Fatalf("case %d: the fault of %+v is %d", i, s, e)
			}
			passed[key(s.Choice)]++
		}
		n, _ := solve.Count(c)
		if len(got.Solutions) < k && len(passed) != n {
			t.Fatalf("case %d: %d of %d choices", i, len(passed), n)
		}
		if len(got.Solutions) == k {
			last := got.Solutions[k-1]
			for _, choice := range choicesBy(c) {
				cost := costBy(c, w, choice)
				before := cost < last.Cost || cost == last.Cost && slices.Compare(choice, last.Choice) <= 0
				if (passed[key(choice)] == 1) != before {
					t.Fatalf("case %d: the choice %v, %d times", i, choice, passed[key(choice)])
				}
			}
		}
		solutions += len(got.Solutions)
	}
	if solutions < 100 {
		t.Errorf("%d solutions", solutions)
	}
}

// key returns a text for a choice.
func key(choice []int) string {
	var b []byte
	for _, i := range choice {
		b = append(b, byte('0'+i))
	}
	return string(b)
}

// TestMoreSolutions asks for more and more solutions.
func TestMoreSolutions(t *testing.T) {
	r := rand.New(rand.NewSource(8))
	for i, x := range fitting(9, 60) {
		c, w := spoilt(r, x.c), weights(r)
		fewer, _ := solve.Best(c, w, 1)
		for k := 2; k <= 6; k++ {
			more, e := solve.Best(c, w, k)
			s, n := len(fewer.Solutions), len(fewer.Rejected)
			if e != api.OK || len(more.Solutions) < s || len(more.Rejected) < n || !same(more.Solutions[:s], fewer.Solutions) || !same(more.Rejected[:n], fewer.Rejected) {
				t.Fatalf("case %d: %+v, error %d, behind %+v", i, more, e, fewer)
			}
			fewer = more
		}
	}
}

// TestWholePage has the widest measure with all features and the most choices, none of which is a solution.
func TestWholePage(t *testing.T) {
	var x known
	for _, one := range fitting(10, 60) {
		if len(placesBy(one.c)) > len(placesBy(x.c)) {
			x = one
		}
	}
	c, _ := solve.Trim(x.c, 0, 1)
	l := c.Cells[len(c.Cells)-1]
	for i, n := len(l)-1, 12; n > 0; i-- {
		for j := range l[i] {
			if n > 0 {
				l[i][j].Options = append(l[i][j].Options, l[i][j].Options[0])
				n--
			}
		}
	}
	c.Frame.Free, c.Frame.Meter = false, api.Meter{Beats: 9, Unit: 8}
	r, e := solve.Best(c, solve.Plain(), 1)
	if e != api.OK || len(r.Solutions) != 0 || len(r.Rejected) != api.MaxChoices {
		t.Errorf("%d solutions, %d rejected, error %d", len(r.Solutions), len(r.Rejected), e)
	}
}
