package grammar_test

import (
	"math/rand"
	"slices"
	"testing"

	"custos/api"
	"custos/cell"
	"custos/grammar"
	"custos/page"
	"custos/score"
)

// TestScoresBack reads the cells of scores.
func TestScoresBack(t *testing.T) {
	for _, s := range fitting(41, 1500) {
		frames, _ := grammar.Frames(s)
		var m [][]api.Measure
		for i, l := range columnsOf(s) {
			read, at, e := grammar.Read(frames[i], l)
			if e != api.OK || at != (grammar.Spot{}) || !same(read, measuresOf(s, i)) {
				text, _ := score.Format(s)
				t.Fatalf("measure %d: %+v, error %d, at %+v:\n%s", i, read, e, at, text)
			}
			m = append(m, read)
		}
		if back, e := grammar.Join(frames, m); e != api.OK || !score.Same(back, s) {
			t.Fatalf("error %d: %+v", e, back)
		}
	}
}

// compare reads cells, and holds what is read against the words of the chapter, and its cells against these. It returns the error.
func compare(t *testing.T, f grammar.Frame, l [][]api.Cell) api.Errno {
	t.Helper()
	m, at, e := grammar.Read(f, l)
	wantM, wantAt, want := readBy(f, l)
	if e != want || at != wantAt || !same(m, wantM) {
		t.Fatalf("%+v, error %d, %+v\nwant\n%+v, error %d, %+v\nof %+v\n%+v", at, e, m, wantAt, want, wantM, f, l)
	}
	if e != api.OK {
		return e
	}
	s, e := grammar.Join([]grammar.Frame{f}, [][]api.Measure{m})
	if e != api.OK {
		t.Fatalf("Join: error %d: %+v\n%+v", e, f, m)
	}
	if at, e := page.Fits(s); e != api.OK {
		t.Fatalf("does not fit at %+v: error %d", at, e)
	}
	if back := columnsOf(s); len(back) != 1 || !same(back[0], l) {
		t.Fatalf("the cells of what is read are\n%+v\nnot\n%+v", back[0], l)
	}
	return api.OK
}

// TestChangedCells changes the cells of scores here and there.
func TestChangedCells(t *testing.T) {
	r := rand.New(rand.NewSource(42))
	seen := map[api.Errno]int{}
	for _, s := range fitting(43, 1200) {
		frames, _ := grammar.Frames(s)
		for i, l := range columnsOf(s) {
			for range 12 {
				f, changed := frames[i], copied(l)
				for range 1 + r.Intn(3) {
					change(r, &f, changed)
				}
				seen[compare(t, f, changed)]++
			}
		}
	}
	for _, e := range []api.Errno{api.OK, api.ErrCell, api.ErrVoices, api.ErrHeads, api.ErrChord, api.ErrStem, api.ErrHook, api.ErrMark, api.ErrColumn, api.ErrSum, api.ErrBeam, api.ErrAcc, api.ErrTie} {
		if seen[e] < 40 {
			t.Errorf("error %d came %d times only", e, seen[e])
		}
	}
}

// change changes a frame or a cell, in the list itself.
func change(r *rand.Rand, f *grammar.Frame, l [][]api.Cell) {
	staff := l[r.Intn(len(l))]
	c := &staff[r.Intn(len(staff))]
	switch r.Intn(16) {
	case 0:
		f.Free = !f.Free
	case 1:
		f.Key = r.Intn(9) - 4
	case 2:
		f.Meter = api.Meter{Beats: 1 + r.Intn(9), Unit: 2 << r.Intn(3)}
	case 3:
		side := r.Intn(2)
		c.Stem[side] = !c.Stem[side]
	case 4:
		side := r.Intn(2)
		c.Triple[side] = !c.Triple[side]
	case 5:
		c.Beam[r.Intn(4)] = r.Intn(5)
	case 6:
		side := r.Intn(2)
		c.Beam[2*side], c.Beam[2*side+1] = r.Intn(5), r.Intn(2)*r.Intn(5)
	case 7:
		c.Rest[r.Intn(3)] = []api.Value{0, 1, 2, 4, 8, 16}[r.Intn(6)]
	case 8:
		zone := r.Intn(3)
		c.RestDot[zone] = !c.RestDot[zone]
	case 9:
		c.Text = []string{"", "a", "la-"}[r.Intn(3)]
	case 10:
		other := &staff[r.Intn(len(staff))]
		*c, *other = *other, *c
	case 11:
		*c = api.Cell{Kind: api.EventCell}
	default:
		changeHeads(r, c)
	}
}

// changeHeads changes the heads of a cell.
func changeHeads(r *rand.Rand, c *api.Cell) {
	if len(c.Heads) == 0 {
		return
	}
	h := &c.Heads[r.Intn(len(c.Heads))]
	switch r.Intn(10) {
	case 0:
		h.Kind = 1 + r.Intn(3)
	case 1:
		h.Dot = !h.Dot
	case 2, 3:
		h.Tie = !h.Tie
	case 4, 5, 6:
		h.Acc = r.Intn(4)
	case 7:
		h.Step += r.Intn(5) - 2
	case 8:
		c.Heads = slices.DeleteFunc(c.Heads, func(one api.Head) bool { return one == *h })
	case 9:
		one := *h
		c.Heads = nil
		for one.Step = -4; one.Step <= 12; one.Step += 2 {
			c.Heads = append(c.Heads, one)
		}
	}
}

// TestSmallMeasures has all measures of up to three columns, of a few cells.
func TestSmallMeasures(t *testing.T) {
	alphabet := []api.Cell{
		nothing, quarter(6), tied(quarter(0), 0), acc(quarter(0), 0, 1), eighth(6), note(1, 0, 2, 0, 6), note(1, 0, 3, 0, 6), beams(4), pause(0, 8), pause(0, 4),
		two, lower(0), both(eighth(6), lower(0)), note(1, 1, 1, 0, 0), both(eighth(6), note(1, 1, 2, 0, 0)), both(eighth(6), note(1, 1, 3, 0, 0)), pause(1, 8), pause(2, 8), both(beams(4), note(1, 1, 1, 0, 0)), both(quarter(6), pause(2, 8)),
	}
	seen := map[api.Errno]int{}
	for _, a := range alphabet {
		for _, b := range append(alphabet, api.Cell{}) {
			for _, c := range append(alphabet, api.Cell{}) {
				l := slices.DeleteFunc([]api.Cell{a, b, c}, func(one api.Cell) bool { return one.Kind == 0 })
				seen[compare(t, frame(0, 2, 8, 1), [][]api.Cell{l})]++
				seen[compare(t, free(1), [][]api.Cell{l})]++
			}
		}
	}
	if seen[api.OK] < 200 {
		t.Error(seen)
	}
}

// TestAnyCells has cells whose numbers may be anything.
func TestAnyCells(t *testing.T) {
	r := rand.New(rand.NewSource(44))
	number := func() int {
		if r.Intn(30) == 0 {
			return extremes[r.Intn(len(extremes))]
		}
		return r.Intn(6) - 1
	}
	for range 20000 {
		c := api.Cell{Kind: api.EventCell, Rest: [3]api.Value{api.Value(number()), api.Value(number()), 0}, Stem: [2]bool{r.Intn(2) > 0, r.Intn(4) == 0}, Beam: [4]int{number(), number(), 0, 0}, Triple: [2]bool{r.Intn(2) > 0, false}}
		for range r.Intn(3) {
			c.Heads = append(c.Heads, api.Head{Step: number(), Kind: number(), Acc: number()})
		}
		want := api.ErrCell
		if cell.Check(c) == api.OK {
			want = compare(t, free(1), row(c))
		}
		if _, _, e := grammar.Read(free(1), row(c)); e != want {
			t.Fatalf("%+v: error %d, want %d", c, e, want)
		}
	}
}
