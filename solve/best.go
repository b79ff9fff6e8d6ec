package solve

import (
	"slices"

	"custos/api"
	"custos/grammar"
)

// Best returns the best solutions.
func Best(c Case, w Weights, k int) (Result, api.Errno) {
	if e := checkSearch(c, w); e != api.OK {
		return Result{}, e
	}
	var r Result
	for one := range inOrder(c, w) {
		measures, fault := read(c, one.options)
		if fault != api.OK {
			r.Rejected = append(r.Rejected, Rejected{Choice: one.options, Fault: fault})
			continue
		}
		r.Solutions = append(r.Solutions, Solution{Choice: one.options, Cost: one.cost, Measures: measures})
		if len(r.Solutions) >= k {
			break
		}
	}
	return r, api.OK
}

// checkSearch reports whether the choices of a case may be gone through.
func checkSearch(c Case, w Weights) api.Errno {
	if e := Check(c); e != api.OK {
		return e
	}
	if !isRight(w) {
		return api.ErrRange
	}
	_, e := Count(c)
	return e
}

// read returns the measures of a choice, or its fault.
func read(c Case, choice []int) ([]api.Measure, api.Errno) {
	l, e := cells(c, choice)
	if e != api.OK {
		return nil, e
	}
	m, _, e := grammar.Read(c.Frame, l)
	return m, e
}

// Verify reports whether a result is what Best returns.
func Verify(c Case, w Weights, k int, r Result) api.Errno {
	want, e := Best(c, w, k)
	switch {
	case e != api.OK:
		return e
	case !slices.EqualFunc(r.Solutions, want.Solutions, sameSolution) || !slices.EqualFunc(r.Rejected, want.Rejected, sameRejected):
		return api.ErrFalse
	}
	return api.OK
}

func sameSolution(a, b Solution) bool {
	return slices.Equal(a.Choice, b.Choice) && a.Cost == b.Cost && slices.EqualFunc(a.Measures, b.Measures, sameMeasure)
}

func sameRejected(a, b Rejected) bool {
	return slices.Equal(a.Choice, b.Choice) && a.Fault == b.Fault
}

func sameMeasure(a, b api.Measure) bool {
	return slices.EqualFunc(a.Voices, b.Voices, func(a, b []api.Event) bool { return slices.EqualFunc(a, b, sameEvent) })
}

func sameEvent(a, b api.Event) bool {
	return slices.Equal(a.Notes, b.Notes) && a.Value == b.Value && a.Dot == b.Dot && a.Triple == b.Triple && a.Beam == b.Beam && a.Text == b.Text
}
