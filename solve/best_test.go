package solve_test

import (
	"math"
	"math/rand"
	"slices"
	"testing"

	"custos/api"
	"custos/solve"
)

// expect checks what Best returns, and that Verify finds it right.
func expect(t *testing.T, name string, c solve.Case, w solve.Weights, k int, want solve.Result) {
	t.Helper()
	r, e := solve.Best(c, w, k)
	if e != api.OK || !same(r, want) {
		t.Errorf("%s, %d solutions: %+v, error %d, want %+v", name, k, r, e, want)
	}
	if e := solve.Verify(c, w, k, want); e != api.OK {
		t.Errorf("%s, %d solutions: Verify has the error %d", name, k, e)
	}
}

func TestExamples(t *testing.T) {
	quarter := solve.Solution{Choice: []int{0}, Cost: 4, Measures: parsed(t, "r/4")}
	half := solve.Rejected{Choice: []int{1}, Fault: api.ErrSum}
	both := solve.Result{Solutions: []solve.Solution{quarter}, Rejected: []solve.Rejected{half}}
	for _, k := range []int{1, 2, 5, 0, -1, math.MinInt, math.MaxInt} {
		expect(t, "the first example", example(), solve.Plain(), k, both)
	}
	trimmed, _ := solve.Trim(example(), 0, 9)
	expect(t, "the second example", trimmed, solve.Plain(), 1, solve.Result{Rejected: []solve.Rejected{{Choice: []int{0}, Fault: api.ErrSum}}})
}

// TestOrder has choices of equal cost, and of costs that the weights make.
func TestOrder(t *testing.T) {
	c := one(ask(api.WRest, 0, 4, 1, 4, 0, 2, 0), ask(api.WText, 0, 0, 2, 0, 1, 0, 0), ask(api.WStem, 0, 0, 0))
	w := solve.Plain()
	w[api.WRest], w[api.WText] = 3, 3
	rest := parsed(t, "r/4")
	var all solve.Result
	for _, x := range []struct{ rest, text, cost int }{{1, 2, 0}, {2, 2, 0}, {0, 2, 3}, {1, 1, 3}, {2, 1, 3}, {0, 1, 6}, {1, 0, 6}, {2, 0, 6}, {0, 0, 9}} {
		choice := []int{x.rest, x.text, 0}
		if x.rest == 2 {
			all.Rejected = append(all.Rejected, solve.Rejected{Choice: choice, Fault: api.ErrSum})
			continue
		}
		all.Solutions = append(all.Solutions, solve.Solution{Choice: choice, Cost: x.cost, Measures: rest})
	}
	for k, passed := range []int{0, 0, 1, 1, 2, 2, 3} {
		expect(t, "nine choices", c, w, k, solve.Result{Solutions: all.Solutions[:max(k, 1)], Rejected: all.Rejected[:passed]})
	}
	expect(t, "nine choices", c, w, 7, all)
	w[api.WText] = 2
	want := []int{0, 2, 3, 4, 5, 7}
	r, e := solve.Best(c, w, 9)
	if e != api.OK || len(r.Solutions) != len(want) {
		t.Fatalf("%+v, error %d", r, e)
	}
	for i, s := range r.Solutions {
		if s.Cost != want[i] {
			t.Errorf("solution %d costs %d, want %d", i, s.Cost, want[i])
		}
	}
}

// TestNoFeatures has a case with one choice, which is empty.
func TestNoFeatures(t *testing.T) {
	expect(t, "no features", one(), solve.Plain(), 3, solve.Result{Rejected: []solve.Rejected{{Choice: nil, Fault: api.ErrColumn}}})
	expect(t, "no features, an empty choice", one([]api.Feature{}...), solve.Plain(), 3, solve.Result{Rejected: []solve.Rejected{{Choice: []int{}, Fault: api.ErrColumn}}})
}

// TestLarge has the most choices, and one feature more.
func TestLarge(t *testing.T) {
	c := bits(12)
	r, e := solve.Best(c, solve.Plain(), 1)
	if e != api.OK || len(r.Solutions) != 0 || len(r.Rejected) != 4096 {
		t.Fatalf("%d solutions, %d rejected, error %d", len(r.Solutions), len(r.Rejected), e)
	}
	for i, x := range r.Rejected {
		for bit := range 12 {
			if x.Choice[bit] != i>>(11-bit)&1 {
				t.Fatalf("choice %d is %v", i, x.Choice)
			}
		}
	}
	if e := solve.Verify(c, solve.Plain(), 1, r); e != api.OK {
		t.Errorf("Verify: error %d", e)
	}
	for _, large := range []solve.Case{bits(13), bits(80), one(api.Feature{Options: make([]api.Option, 4097)}), one(append([]api.Feature{ask(api.WRest, 0, 4, 0)}, bits(13).Cells[0][0]...)...)} {
		n, _ := solve.Count(large)
		r, e := solve.Best(large, solve.Plain(), 1)
		if n == 0 && (e != api.ErrLarge || !zero(r)) {
			t.Errorf("%+v, error %d", r, e)
		}
		if f := solve.Verify(large, solve.Plain(), 1, r); f != e {
			t.Errorf("Verify: error %d, want %d", f, e)
		}
	}
}

// TestBestByDefinition compares with a search that sorts all choices.
func TestBestByDefinition(t *testing.T) {
	r := rand.New(rand.NewSource(3))
	solutions, faults := 0, map[api.Errno]int{}
	for range 1500 {
		c, w, k := guess(r), weights(r), r.Intn(6)-1
		before := copied(c)
		want := bestBy(c, w, k)
		expect(t, "a guess", c, w, k, want)
		if !same(c, before) {
			t.Fatalf("the case has changed: %+v", c)
		}
		if t.Failed() {
			t.Fatalf("of %+v", c)
		}
		solutions += len(want.Solutions)
		for _, x := range want.Rejected {
			faults[x.Fault]++
		}
	}
	if solutions < 500 || faults[api.ErrSum] < 100 || faults[api.ErrArg] < 100 || faults[api.ErrStem] < 100 {
		t.Errorf("%d solutions, faults %v", solutions, faults)
	}
}

// TestMemory overwrites a result: all its lists are its own.
func TestMemory(t *testing.T) {
	c := one(ask(api.WHead, 4, 1, 0, 1, 1), ask(api.WStem, 0, 1, 0, 0, 0), ask(api.WText, 0, 0, 0, 1, 0))
	before := copied(c)
	want := bestBy(c, solve.Plain(), 9)
	r, e := solve.Best(c, solve.Plain(), 9)
	if e != api.OK || len(r.Solutions) < 4 || len(r.Rejected) < 4 {
		t.Fatalf("%+v, error %d", r, e)
	}
	for i, s := range r.Solutions {
		if !same(s, want.Solutions[i]) {
			t.Fatalf("solution %d is %+v, want %+v", i, s, want.Solutions[i])
		}
		_ = append(s.Choice[:0], 7, 7, 7)
		_ = append(s.Measures[0].Voices[0][0].Notes[:0], api.Note{})
		s.Measures[0].Voices[0][0].Value = 3
	}
	for i, x := range r.Rejected {
		if !same(x, want.Rejected[i]) {
			t.Fatalf("rejected %d is %+v, want %+v", i, x, want.Rejected[i])
		}
		_ = append(x.Choice[:0], 7, 7, 7)
	}
	if !same(c, before) {
		t.Errorf("the case has changed: %+v", c)
	}
	expect(t, "again", c, solve.Plain(), 9, want)
}

// falsified returns results that each differ in one thing from a result with solutions and rejected choices, each of which has a note.
func falsified(right func() solve.Result) map[string]solve.Result {
	out := map[string]solve.Result{"nothing": {}}
	for name, change := range map[string]func(r *solve.Result){
		"no solutions":        func(r *solve.Result) { r.Solutions = nil },
		"no rejected":         func(r *solve.Result) { r.Rejected = nil },
		"a solution less":     func(r *solve.Result) { r.Solutions = r.Solutions[:len(r.Solutions)-1] },
		"a solution more":     func(r *solve.Result) { r.Solutions = append(r.Solutions, r.Solutions[0]) },
		"a rejected less":     func(r *solve.Result) { r.Rejected = r.Rejected[1:] },
		"a rejected more":     func(r *solve.Result) { r.Rejected = append(r.Rejected, r.Rejected[0]) },
		"solutions exchanged": func(r *solve.Result) { slices.Reverse(r.Solutions) },
		"rejected exchanged":  func(r *solve.Result) { slices.Reverse(r.Rejected) },
		"a choice":            func(r *solve.Result) { r.Solutions[1].Choice[2]++ },
		"a choice's length":   func(r *solve.Result) { r.Solutions[1].Choice = append(r.Solutions[1].Choice, 0) },
		"a cost":              func(r *solve.Result) { r.Solutions[1].Cost++ },
		"a rejected choice":   func(r *solve.Result) { r.Rejected[1].Choice[0]++ },
		"a rejected length":   func(r *solve.Result) { r.Rejected[1].Choice = nil },
		"a fault":             func(r *solve.Result) { r.Rejected[0].Fault = api.ErrStem },
		"no fault":            func(r *solve.Result) { r.Rejected[1].Fault = api.OK },
		"no measures":         func(r *solve.Result) { r.Solutions[1].Measures = nil },
		"a measure more":      func(r *solve.Result) { r.Solutions[1].Measures = append(r.Solutions[1].Measures, api.Measure{}) },
		"no voices":           func(r *solve.Result) { r.Solutions[1].Measures[0].Voices = nil },
		"a voice more": func(r *solve.Result) {
			r.Solutions[1].Measures[0].Voices = append(r.Solutions[1].Measures[0].Voices, nil)
		},
		"no events": func(r *solve.Result) { r.Solutions[1].Measures[0].Voices[0] = nil },
		"an event more": func(r *solve.Result) {
			r.Solutions[1].Measures[0].Voices[0] = append(r.Solutions[1].Measures[0].Voices[0], api.Event{})
		},
	} {
		r := right()
		change(&r)
		out[name] = r
	}
	for name, change := range map[string]func(e *api.Event){
		"a value":       func(e *api.Event) { e.Value = api.Eighth },
		"a dot":         func(e *api.Event) { e.Dot = true },
		"a triple":      func(e *api.Event) { e.Triple = true },
		"a beam":        func(e *api.Event) { e.Beam = api.BeamIn },
		"a text":        func(e *api.Event) { e.Text = "b" },
		"no notes":      func(e *api.Event) { e.Notes = nil },
		"a note more":   func(e *api.Event) { e.Notes = append(e.Notes, e.Notes[0]) },
		"a step":        func(e *api.Event) { e.Notes[0].Pitch.Step++ },
		"an alteration": func(e *api.Event) { e.Notes[0].Pitch.Alter = 1 },
		"a tie":         func(e *api.Event) { e.Notes[0].Tie = true },
	} {
		r := right()
		change(&r.Solutions[1].Measures[0].Voices[0][0])
		out[name] = r
	}
	return out
}

func TestVerify(t *testing.T) {
	c := one(ask(api.WHead, 4, 1, 0, 2, 0), ask(api.WStem, 0, 1, 0), ask(api.WText, 0, 0, 0, 1, 0))
	right := func() solve.Result {
		r, _ := solve.Best(c, solve.Plain(), 3)
		return r
	}
	want := right()
	if len(want.Solutions) != 2 || len(want.Rejected) != 2 {
		t.Fatalf("%+v", want)
	}
	for _, k := range []int{3, 4, math.MaxInt} {
		if e := solve.Verify(c, solve.Plain(), k, want); e != api.OK {
			t.Errorf("%d solutions: error %d", k, e)
		}
	}
	for name, r := range falsified(right) {
		if e := solve.Verify(c, solve.Plain(), 3, r); e != api.ErrFalse {
			t.Errorf("%s: error %d", name, e)
		}
	}
	// With another number, other weights, another case.
	for _, k := range []int{math.MinInt, -1, 0, 1, 2} {
		fewer, errno := want, api.ErrFalse
		if k == 2 {
			fewer.Rejected, errno = nil, api.OK
		}
		if e := solve.Verify(c, solve.Plain(), k, fewer); e != errno {
			t.Errorf("%d solutions: error %d, want %d", k, e, errno)
		}
	}
	other := copied(c)
	other.Cells[0][0][1].Options[0].Miss = 1
	if e := solve.Verify(other, solve.Plain(), 3, want); e != api.ErrFalse {
		t.Errorf("another case: error %d", e)
	}
	r, _ := solve.Best(other, solve.Plain(), 3)
	w := solve.Plain()
	w[api.WStem] = 5
	if e := solve.Verify(other, w, 3, r); e != api.ErrFalse {
		t.Errorf("other weights: error %d", e)
	}
	w[api.WStem], w[api.WTie], w[0] = 4, 7, 99
	if e := solve.Verify(other, w, 3, r); e != api.OK {
		t.Errorf("weights that do not matter: error %d", e)
	}
}

// TestVerifyEmpty has empty lists instead of nil.
func TestVerifyEmpty(t *testing.T) {
	for _, c := range []solve.Case{example(), one()} {
		r, _ := solve.Best(c, solve.Plain(), 1)
		for i := range r.Solutions {
			r.Solutions[i].Measures[0].Voices[0][0].Notes = []api.Note{}
		}
		for i := range r.Rejected {
			r.Rejected[i].Choice = append([]int{}, r.Rejected[i].Choice...)
		}
		if len(r.Solutions) == 0 {
			r.Solutions = []solve.Solution{}
		}
		if e := solve.Verify(c, solve.Plain(), 1, r); e != api.OK {
			t.Errorf("%+v: error %d", r, e)
		}
	}
}

// TestVerifyErrors has wrong results with other errors.
func TestVerifyErrors(t *testing.T) {
	r, _ := solve.Best(example(), solve.Plain(), 1)
	if e := solve.Verify(bits(13), solve.Plain(), 1, r); e != api.ErrLarge {
		t.Errorf("error %d", e)
	}
	if e := solve.Verify(solve.Case{}, solve.Plain(), 1, r); e != api.ErrParts {
		t.Errorf("error %d", e)
	}
}
