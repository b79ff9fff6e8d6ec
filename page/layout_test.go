package page_test

import (
	"math/rand"
	"slices"
	"strings"
	"testing"

	"custos/api"
	"custos/page"
	"custos/score"
)

func TestColumnsExamples(t *testing.T) {
	s := parsed(t, strings.Replace(chapter, "%", "f#4", 1))
	if l, e := page.Columns(s, 0); e != api.OK || !slices.Equal(l, []api.Ratio{{N: 0, D: 1}, {N: 1, D: 8}, {N: 1, D: 4}}) {
		t.Errorf("%v, error %d", l, e)
	}
	for _, m := range append([]int{-1, 1, 2}, extremes...) {
		if l, e := page.Columns(s, m); e != api.ErrArg || !zero(l) {
			t.Errorf("measure %d: %v, error %d", m, l, e)
		}
	}
	s = piece(t, "2 4", "single single", "treble r/4. r/8 | r/2", "alto r/2 ; r/8t r/4t r/4 | r/4t r/4t r/4t", "bass r/16 r/16 r/4 r/8 | r/4 r/4")
	for m, want := range [][]api.Ratio{{{N: 0, D: 1}, {N: 1, D: 16}, {N: 1, D: 12}, {N: 1, D: 8}, {N: 1, D: 4}, {N: 3, D: 8}}, {{N: 0, D: 1}, {N: 1, D: 6}, {N: 1, D: 4}, {N: 1, D: 3}}} {
		if l, e := page.Columns(s, m); e != api.OK || !slices.Equal(l, want) {
			t.Errorf("measure %d: %v, error %d", m, l, e)
		}
	}
}

// TestColumnsByDefinition has scores that need not fit.
func TestColumnsByDefinition(t *testing.T) {
	r := rand.New(rand.NewSource(2))
	for range 500 {
		s := tune(r, true)
		for m := range s.Bars {
			var want []api.Ratio
			for _, n := range columnsBy(s, m) {
				want = append(want, time(n))
			}
			if l, e := page.Columns(s, m); e != api.OK || !slices.Equal(l, want) {
				t.Fatalf("%v, error %d; want %v", l, e, want)
			}
		}
		if l, e := page.Columns(s, len(s.Bars)); e != api.ErrArg || !zero(l) {
			t.Fatalf("%v, error %d", l, e)
		}
	}
}

// TestMostColumns has a measure with as many onsets as there may be.
func TestMostColumns(t *testing.T) {
	s := long(t, 1, 48)
	if l, e := page.Columns(s, 0); e != api.OK || len(l) != 48 || l[47] != (api.Ratio{N: 47, D: 16}) {
		t.Errorf("%v, error %d", l, e)
	}
}

func TestLayoutExamples(t *testing.T) {
	s := parsed(t, strings.Replace(chapter, "%", "f#4", 1))
	want := []page.System{{First: 0, Count: 1, Slots: []page.Slot{{Kind: api.ClefCell}, {Kind: api.KeyCell}, {Kind: api.MeterCell}, {Kind: api.EventCell}, {Kind: api.EventCell, Column: 1}, {Kind: api.EventCell, Column: 2}, {Kind: api.BarCell}}}}
	if l, e := page.Layout(s); e != api.OK || !same(l, want) {
		t.Errorf("%+v, error %d", l, e)
	}
	s = long(t, 2, 20)
	s.Parts[0].Measures[1].Voices[0] = s.Parts[0].Measures[1].Voices[0][:2]
	want[0].Slots = want[0].Slots[:3:3]
	for c := range 20 {
		want[0].Slots = append(want[0].Slots, page.Slot{Kind: api.EventCell, Column: c})
	}
	want[0].Slots = append(want[0].Slots, page.Slot{Kind: api.BarCell})
	want = append(want, page.System{First: 1, Count: 1, Slots: []page.Slot{{Kind: api.ClefCell}, {Kind: api.KeyCell}, {Kind: api.MeterCell}, {Kind: api.EventCell, Measure: 1}, {Kind: api.EventCell, Measure: 1, Column: 1}, {Kind: api.BarCell, Measure: 1}}})
	if l, e := page.Layout(s); e != api.OK || !same(l, want) {
		t.Errorf("%+v, error %d", l, e)
	}
}

// TestFull has systems that are filled up to their last slot, and such that lack one for the next measure.
func TestFull(t *testing.T) {
	for _, x := range []struct {
		columns, counts []int
	}{
		{[]int{9, 10}, []int{2}},
		{[]int{9, 11}, []int{1, 1}},
		{[]int{20, 1}, []int{1, 1}},
		{[]int{18, 1, 1}, []int{2, 1}},
		{[]int{6, 6, 6, 6, 6, 6}, []int{3, 3}},
		{[]int{6, 6, 7, 6, 6, 7, 1}, []int{2, 2, 3}},
		{[]int{20, 20, 1, 20}, []int{1, 1, 1, 1}},
	} {
		s := long(t, len(x.columns), 20)
		for m, n := range x.columns {
			s.Parts[0].Measures[m].Voices[0] = s.Parts[0].Measures[m].Voices[0][:n]
		}
		l, e := page.Layout(s)
		var counts []int
		first := 0
		for _, y := range l {
			if y.First != first {
				t.Errorf("%v: a system begins with %d", x.columns, y.First)
			}
			counts, first = append(counts, y.Count), first+y.Count
		}
		if e != api.OK || !slices.Equal(counts, x.counts) {
			t.Errorf("%v: %v, error %d", x.columns, counts, e)
		}
	}
}

func TestLayoutByDefinition(t *testing.T) {
	for _, s := range fitting(3, 500) {
		if l, e := page.Layout(s); e != api.OK || !same(l, layoutBy(s)) {
			t.Fatalf("%+v, error %d; want %+v", l, e, layoutBy(s))
		}
	}
}

// TestLayoutIsNew changes results, and looks whether others change.
func TestLayoutIsNew(t *testing.T) {
	s := long(t, 4, 9)
	was := score.Copy(s)
	l, _ := page.Layout(s)
	c, _ := page.Columns(s, 0)
	for i := range l {
		clear(l[i].Slots)
		_ = append(l[i].Slots, page.Slot{Kind: 7})
		for _, y := range l[i+1:] {
			if y.Slots[0] != (page.Slot{Kind: api.ClefCell}) {
				t.Error("systems share memory")
			}
		}
	}
	clear(c)
	if again, _ := page.Layout(s); !same(again, layoutBy(s)) {
		t.Error("a layout was kept")
	}
	if again, _ := page.Columns(s, 0); len(again) != 9 || again[8] != time(48) {
		t.Error("columns were kept")
	}
	if !score.Same(s, was) {
		t.Error("the score was changed")
	}
}
