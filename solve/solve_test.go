package solve_test

import (
	"math"
	"math/rand"
	"slices"
	"testing"

	"custos/api"
	"custos/grammar"
	"custos/solve"
)

func TestPlain(t *testing.T) {
	w := solve.Plain()
	for what := api.WClef; what <= api.WText; what++ {
		if w[what] != 4 {
			t.Errorf("the weight %d is %d", what, w[what])
		}
	}
}

// wrong is a case that is not valid.
type wrong struct {
	name  string
	c     solve.Case
	errno api.Errno
}

// wrongs returns cases that are not valid, many of them with errors that come after the one that counts.
func wrongs() []wrong {
	closed, low, high, rest := ask(api.WStem, 0), ask(api.WRest, 0, 4, 0, 2, -1), ask(api.WRest, 0, 4, 10001), ask(api.WRest, 0, 4, 0)
	of := func(f grammar.Frame, l ...staff) solve.Case { return solve.Case{Frame: f, Cells: l} }
	columns := func(n int, l ...api.Feature) staff { return slices.Repeat(staff{l}, n) }
	l := []wrong{
		{"the zero case", solve.Case{}, api.ErrParts},
		{"no clefs", of(frame(1, 4, 0), columns(21, low)), api.ErrParts},
		{"too many clefs", of(frame(1, 4, 4), columns(1), columns(1), columns(1), columns(1)), api.ErrParts},
		{"a clef", of(grammar.Frame{Clefs: []api.Clef{4}, Key: 5, Meter: api.Meter{Beats: 1, Unit: 3}}), api.ErrClef},
		{"a key", of(grammar.Frame{Clefs: []api.Clef{1}, Key: 5, Meter: api.Meter{Beats: 1, Unit: 3}}), api.ErrKey},
		{"a meter", of(frame(1, 3, 1)), api.ErrMeter},
		{"a barline", of(grammar.Frame{Clefs: []api.Clef{1}, Meter: api.Meter{Beats: 1, Unit: 4}}, columns(21), nil), api.ErrArg},
		{"no staff", of(frame(1, 4, 1)), api.ErrParts},
		{"a staff less", of(frame(1, 4, 2), columns(21, closed)), api.ErrParts},
		{"a staff more", of(frame(1, 4, 1), columns(1, closed), columns(1)), api.ErrParts},
		{"a column less", of(frame(1, 4, 2), columns(2, closed), columns(1)), api.ErrParts},
		{"a column more", of(frame(1, 4, 3), columns(2, low), columns(2), columns(3)), api.ErrParts},
		{"no columns in one staff", of(frame(1, 4, 2), columns(2, low), nil), api.ErrParts},
		{"too many columns in one staff", of(frame(1, 4, 2), columns(20), columns(21)), api.ErrParts},
		{"no columns", of(frame(1, 4, 2), nil, staff{}), api.ErrWide},
		{"too many columns", of(frame(1, 4, 2), columns(21, closed), columns(21)), api.ErrWide},
		{"very many columns", of(frame(1, 4, 1), columns(1000000)), api.ErrWide},
		{"no option", one(closed), api.ErrNone},
		{"an empty list of options", one(api.Feature{Options: []api.Option{}}), api.ErrNone},
		{"no option behind what is out of range", of(frame(1, 4, 2), columns(2, rest, low), staff{{rest}, {rest, closed}}), api.ErrNone},
		{"no option before what is out of range", one(closed, high), api.ErrNone},
		{"a Miss below 0", one(low), api.ErrRange},
		{"a Miss above 10000", one(high), api.ErrRange},
		{"the last Miss", of(frame(1, 4, 2), columns(20, rest), append(columns(19, rest), []api.Feature{rest, high})), api.ErrRange},
		{"a Miss of a feature that there is not", one(ask(0, 0, 0, -1)), api.ErrRange},
	}
	for _, x := range extremes {
		l = append(l, wrong{"an extreme Miss", one(rest, ask(api.WText, 0, 0, 0, 0, x)), api.ErrRange})
	}
	return l
}

// rights returns cases that are valid.
func rights() []solve.Case {
	l := []solve.Case{example(), one(), one(ask(api.WRest, 0, 4, 10000)), one(ask(api.WRest, 0, 4, 0)), bits(80), one(ask(0, 0, 0, 0), ask(math.MinInt, math.MaxInt, math.MaxInt, 1), ask(17, -1, -1, 10000))}
	for staves := 1; staves <= 3; staves++ {
		for _, columns := range []int{1, 20} {
			l = append(l, solve.Case{Frame: frame(9, 2, staves), Cells: slices.Repeat([][][]api.Feature{slices.Repeat(staff{{ask(api.WStem, 0, 0, 0)}}, columns)}, staves)})
		}
	}
	return l
}

func TestCheck(t *testing.T) {
	for _, x := range wrongs() {
		if e := solve.Check(x.c); e != x.errno {
			t.Errorf("%s: error %d, want %d", x.name, e, x.errno)
		}
	}
	for i, c := range rights() {
		if e := solve.Check(c); e != api.OK {
			t.Errorf("case %d: error %d", i, e)
		}
	}
}

// TestCheckFirst has all calls with cases that are not valid, and with other arguments that are not.
func TestCheckFirst(t *testing.T) {
	for _, x := range wrongs() {
		trimmed, e1 := solve.Trim(x.c, 0, 0)
		count, e2 := solve.Count(x.c)
		cost, e3 := solve.Cost(x.c, solve.Weights{}, []int{7, 8})
		cells, e4 := solve.Cells(x.c, []int{7, 8})
		best, e5 := solve.Best(x.c, solve.Weights{}, 0)
		e6 := solve.Verify(x.c, solve.Weights{}, 0, solve.Result{})
		places, e7 := solve.Differ(x.c, []solve.Solution{{Choice: []int{7, 8}}, {}})
		if errnos := []api.Errno{e1, e2, e3, e4, e5, e6, e7}; !slices.Equal(errnos, slices.Repeat([]api.Errno{x.errno}, 7)) {
			t.Errorf("%s: errors %v, want %d", x.name, errnos, x.errno)
		}
		if !zero(trimmed) || count != 0 || cost != 0 || !zero(cells) || !zero(best) || !zero(places) {
			t.Errorf("%s: a result with an error", x.name)
		}
	}
}

func TestTrim(t *testing.T) {
	all := []int{1, 5, 2, 3, 3, 4, 4, 3, 5, 13}
	for _, x := range []struct {
		slack, most int
		want        []int
	}{
		{0, 9, []int{2, 3, 4, 3}}, {0, 2, []int{2, 3, 4, 3}}, {0, 1, []int{2, 3}}, {0, 0, []int{2, 3}}, {0, -1, []int{2, 3}}, {0, math.MinInt, []int{2, 3}},
		{-1, 9, []int{2, 3, 4, 3}}, {math.MinInt, 9, []int{2, 3, 4, 3}},
		{1, 9, []int{2, 3, 3, 4, 4, 3}}, {1, 2, []int{2, 3, 3, 4}},
		{2, 9, []int{1, 5, 2, 3, 3, 4, 4, 3}}, {2, 1, []int{1, 5}}, {2, 2, []int{1, 5, 2, 3}}, {2, 0, []int{1, 5}},
		{9, 9, all[:8]}, {10, 9, all}, {10, 5, all}, {10, 4, all[:8]}, {math.MaxInt, math.MaxInt, all}, {math.MaxInt, math.MinInt, all[:2]},
	} {
		got, e := solve.Trim(one(ask(api.WText, 0, all...)), x.slack, x.most)
		if want := one(ask(api.WText, 0, x.want...)); e != api.OK || !same(got, want) {
			t.Errorf("slack %d, most %d: %+v, error %d, want %+v", x.slack, x.most, got, e, want)
		}
	}
	wide := one(ask(api.WText, 0, 1, 10000, 2, 0))
	if got, e := solve.Trim(wide, 9999, 9); e != api.OK || !same(got, one(ask(api.WText, 0, 2, 0))) {
		t.Errorf("%+v, error %d", got, e)
	}
	if got, e := solve.Trim(wide, 10000, 9); e != api.OK || !same(got, wide) {
		t.Errorf("%+v, error %d", got, e)
	}
}

// TestTrimByDefinition trims cases of which other features have other best options. Their frames and places stay.
func TestTrimByDefinition(t *testing.T) {
	r := rand.New(rand.NewSource(1))
	for range 3000 {
		c := guess(r)
		slack, most := r.Intn(6)-1, r.Intn(6)-1
		before := copied(c)
		got, e := solve.Trim(c, slack, most)
		if want := trimBy(c, slack, most); e != api.OK || !same(got, want) {
			t.Fatalf("slack %d, most %d of %+v: %+v, error %d, want %+v", slack, most, c, got, e, want)
		}
		spoil(got)
		if !same(c, before) {
			t.Fatalf("memory is shared: %+v", c)
		}
	}
}

// spoil overwrites what a case has.
func spoil(c solve.Case) {
	for i := range c.Frame.Clefs {
		c.Frame.Clefs[i] = 9
	}
	for _, s := range c.Cells {
		for column, l := range s {
			for i := range l {
				for o := range l[i].Options {
					l[i].Options[o] = api.Option{Value: 99, Miss: 99}
				}
				l[i] = api.Feature{}
			}
			s[column] = nil
		}
	}
	clear(c.Cells)
}

// TestTrimMany has a feature with so many options that each may be looked at a few times only.
func TestTrimMany(t *testing.T) {
	c := one(api.Feature{Place: api.Place{What: api.WRest}})
	for i := range 300000 {
		c.Cells[0][0][0].Options = append(c.Cells[0][0][0].Options, api.Option{Value: i, Miss: i % 10000})
	}
	got, e := solve.Trim(c, 0, 31)
	if e != api.OK || len(got.Cells[0][0][0].Options) != 30 || got.Cells[0][0][0].Options[29] != (api.Option{Value: 290000}) {
		t.Errorf("error %d", e)
	}
}

func TestCount(t *testing.T) {
	for n := range 81 {
		want, errno := 1<<min(n, 12), api.OK
		if n > 12 {
			want, errno = 0, api.ErrLarge
		}
		if got, e := solve.Count(bits(max(n, 1))); n > 0 && (got != want || e != errno) {
			t.Errorf("%d features: %d, error %d", n, got, e)
		}
	}
	options := func(n int) api.Feature {
		return api.Feature{Options: make([]api.Option, n)}
	}
	for _, x := range []struct {
		l     []api.Feature
		n     int
		errno api.Errno
	}{
		{nil, 1, api.OK},
		{[]api.Feature{options(1), options(1)}, 1, api.OK},
		{[]api.Feature{options(3), options(5), options(7)}, 105, api.OK},
		{[]api.Feature{options(4096)}, 4096, api.OK},
		{[]api.Feature{options(4097)}, 0, api.ErrLarge},
		{[]api.Feature{options(17), options(241)}, 0, api.ErrLarge},
		{[]api.Feature{options(15), options(273)}, 4095, api.OK},
		{[]api.Feature{options(64), options(1), options(64)}, 4096, api.OK},
		{slices.Repeat([]api.Feature{options(65536)}, 60), 0, api.ErrLarge},
	} {
		if n, e := solve.Count(one(x.l...)); n != x.n || e != x.errno {
			t.Errorf("%d features: %d, error %d, want %d, error %d", len(x.l), n, e, x.n, x.errno)
		}
	}
	// In other staves and columns.
	c := solve.Case{Frame: frame(1, 4, 2), Cells: [][][]api.Feature{{{options(3)}, {options(2), options(2)}}, {nil, {options(5)}}}}
	if n, e := solve.Count(c); n != 60 || e != api.OK {
		t.Errorf("%d, error %d", n, e)
	}
}

func TestCost(t *testing.T) {
	w := solve.Weights{math.MinInt}
	c := one()
	want := 0
	var choice []int
	for what := api.WClef; what <= api.WText; what++ {
		w[what] = 17 - int(what)
		for i := range 2 {
			c.Cells[0][0] = append(c.Cells[0][0], ask(what, i, 0, 10000, 1, int(what)))
		}
		choice, want = append(choice, 0, 1), want+w[what]*(10000+int(what))
	}
	if n, e := solve.Cost(c, w, choice); n != want || e != api.OK {
		t.Errorf("%d, error %d, want %d", n, e, want)
	}
	for _, what := range append([]int{0, -1, 17, 18}, extremes...) {
		c := one(ask(api.What(what), 0, 0, 7), ask(api.WStem, 0, 0, 3))
		if n, e := solve.Cost(c, w, []int{0, 0}); n != 12 || e != api.OK {
			t.Errorf("What %d: %d, error %d", what, n, e)
		}
	}
	if n, e := solve.Cost(one(), w, nil); n != 0 || e != api.OK {
		t.Errorf("no features: %d, error %d", n, e)
	}
	// More choices than may be gone through.
	if n, e := solve.Cost(bits(20), w, make([]int, 20)); n != 0 || e != api.OK {
		t.Errorf("many choices: %d, error %d", n, e)
	}
}

// wrongWeights returns weights that are not right.
func wrongWeights() []solve.Weights {
	var l []solve.Weights
	for i := 1; i <= 16; i++ {
		for _, n := range append([]int{0, -1, 17}, extremes...) {
			w := solve.Plain()
			w[i] = n
			l = append(l, w)
		}
	}
	return append(l, solve.Weights{})
}

func TestWeights(t *testing.T) {
	for _, w := range wrongWeights() {
		if n, e := solve.Cost(example(), w, []int{0}); n != 0 || e != api.ErrRange {
			t.Errorf("%v: %d, error %d", w, n, e)
		}
		if n, e := solve.Cost(example(), w, nil); n != 0 || e != api.ErrArg {
			t.Errorf("%v and no choice: %d, error %d", w, n, e)
		}
		for _, c := range []solve.Case{example(), bits(13)} {
			if r, e := solve.Best(c, w, 1); !zero(r) || e != api.ErrRange {
				t.Errorf("Best with %v: %+v, error %d", w, r, e)
			}
			if e := solve.Verify(c, w, 1, solve.Result{}); e != api.ErrRange {
				t.Errorf("Verify with %v: error %d", w, e)
			}
		}
	}
	for _, n := range append([]int{0, 17}, extremes...) {
		for _, each := range []int{1, 16} {
			w := solve.Weights(slices.Repeat([]int{each}, 17))
			w[0] = n
			if cost, e := solve.Cost(example(), w, []int{0}); cost != each || e != api.OK {
				t.Errorf("%v: %d, error %d", w, cost, e)
			}
			if r, e := solve.Best(example(), w, 1); e != api.OK || r.Solutions[0].Cost != each {
				t.Errorf("Best with %v: %+v, error %d", w, r, e)
			}
		}
	}
}

// wrongChoice is a case with a list that is none of its choices.
type wrongChoice struct {
	c      solve.Case
	choice []int
}

// wrongChoices returns lists that are no choices.
func wrongChoices() []wrongChoice {
	two := solve.Case{Frame: frame(1, 4, 2), Cells: [][][]api.Feature{{{ask(api.WRest, 0, 4, 0)}}, {{ask(api.WRest, 0, 4, 0, 2, 1, 1, 2)}}}}
	l := []wrongChoice{{two, nil}, {two, []int{0}}, {two, []int{0, 0, 0}}, {two, []int{1, 0}}, {two, []int{2, 0}}, {two, []int{0, 3}}, {two, []int{0, -1}}, {one(), []int{0}}, {example(), nil}, {example(), make([]int, 1000)}}
	for _, x := range extremes {
		l = append(l, wrongChoice{two, []int{0, x}}, wrongChoice{two, []int{x, 0}}, wrongChoice{one(), []int{x}})
	}
	return l
}

func TestErrArg(t *testing.T) {
	for _, x := range wrongChoices() {
		if n, e := solve.Cost(x.c, solve.Plain(), x.choice); n != 0 || e != api.ErrArg {
			t.Errorf("Cost of %v: %d, error %d", x.choice, n, e)
		}
		if l, e := solve.Cells(x.c, x.choice); !zero(l) || e != api.ErrArg {
			t.Errorf("Cells of %v: %+v, error %d", x.choice, l, e)
		}
		n := len(placesBy(x.c))
		for _, l := range [][]solve.Solution{{{Choice: x.choice}}, {{Choice: make([]int, n)}, {Choice: x.choice}}, {{Choice: x.choice}, {Choice: make([]int, n)}}} {
			if places, e := solve.Differ(x.c, l); !zero(places) || e != api.ErrArg {
				t.Errorf("Differ of %v: %+v, error %d", l, places, e)
			}
		}
	}
}

func TestCells(t *testing.T) {
	head := []api.Feature{ask(api.WHead, 4, 2, 0, 1, 3), ask(api.WStem, 0, 0, 0, 1, 1)}
	rest := []api.Feature{ask(api.WRest, 0, 8, 0, 4, 1), ask(api.WRestDot, 0, 0, 0, 1, 1)}
	c := solve.Case{Frame: frame(1, 4, 2), Cells: [][][]api.Feature{{head, nil}, {rest, {ask(api.WText, 0, 1, 0)}}}}
	empty := api.Cell{Kind: api.EventCell}
	black, white, dotted, named := empty, empty, empty, empty
	black.Heads, black.Stem[0] = []api.Head{{Step: 4, Kind: 1}}, true
	white.Heads = []api.Head{{Step: 4, Kind: 2}}
	dotted.Rest[0], dotted.RestDot[0] = 4, true
	eighth := empty
	eighth.Rest[0] = 8
	named.Text = "a"
	for _, x := range []struct {
		choice []int
		want   [][]api.Cell
	}{
		{[]int{1, 1, 1, 1, 0}, [][]api.Cell{{black, empty}, {dotted, named}}},
		{[]int{0, 0, 0, 0, 0}, [][]api.Cell{{white, empty}, {eighth, named}}},
	} {
		l, e := solve.Cells(c, x.choice)
		if e != api.OK || !same(l, x.want) {
			t.Errorf("%v: %+v, error %d, want %+v", x.choice, l, e, x.want)
		}
	}
}

// TestCellsFaults has cells that cannot be made, with the error of the first one.
func TestCellsFaults(t *testing.T) {
	right := []api.Feature{ask(api.WRest, 0, 4, 0)}
	arg, text, no := []api.Feature{ask(api.WClef, 0, 1, 0)}, []api.Feature{ask(api.WText, 1, 1, 0)}, []api.Feature{ask(api.WStem, 0, 1, 0)}
	twice := []api.Feature{right[0], right[0]}
	value := []api.Feature{ask(api.WRest, 0, 3, 0)}
	for i, x := range []struct {
		l     [][][]api.Feature
		errno api.Errno
	}{
		{[][][]api.Feature{{right, arg}, {text, right}}, api.ErrArg},
		{[][][]api.Feature{{right, right}, {text, arg}}, api.ErrText},
		{[][][]api.Feature{{right, text}, {arg, no}}, api.ErrText},
		{[][][]api.Feature{{no, right}, {arg, text}}, api.ErrCell},
		{[][][]api.Feature{{right, right}, {right, no}}, api.ErrCell},
		{[][][]api.Feature{{right, twice}, {no, no}}, api.ErrArg},
		{[][][]api.Feature{{right, value}, {no, no}}, api.ErrArg},
	} {
		c := solve.Case{Frame: frame(1, 4, 2), Cells: x.l}
		choice := make([]int, len(placesBy(c)))
		if l, e := solve.Cells(c, choice); !zero(l) || e != x.errno {
			t.Errorf("case %d: %+v, error %d, want %d", i, l, e, x.errno)
		}
		want := solve.Result{Rejected: []solve.Rejected{{Choice: choice, Fault: x.errno}}}
		if r, e := solve.Best(c, solve.Plain(), 1); e != api.OK || !same(r, want) {
			t.Errorf("case %d: %+v, error %d", i, r, e)
		}
	}
}

func TestDiffer(t *testing.T) {
	c := solve.Case{Frame: frame(1, 4, 2), Cells: [][][]api.Feature{
		{{ask(api.WRest, 0, 4, 0, 2, 0, 4, 0), ask(api.WRestDot, 0, 0, 0, 1, 0)}, {ask(api.WStem, 1, 0, 0, 0, 0)}},
		{nil, {ask(api.WText, 3, 0, 0, 1, 0), ask(99, 7, 0, 0, 0, 0)}},
	}}
	c.Cells[0][1][0].Place.System, c.Cells[0][1][0].Place.Staff, c.Cells[0][1][0].Place.Slot = 3, 8, 9
	first, dot, stem, text, last := api.Place{What: api.WRest}, api.Place{What: api.WRestDot}, api.Place{System: 3, Slot: 1, What: api.WStem, Index: 1}, api.Place{Staff: 1, Slot: 1, What: api.WText, Index: 3}, api.Place{Staff: 1, Slot: 1, What: 99, Index: 7}
	for _, x := range []struct {
		l    [][]int
		want []api.Place
	}{
		{nil, nil},
		{[][]int{{0, 0, 0, 0, 0}}, nil},
		{[][]int{{2, 1, 1, 1, 1}, {2, 1, 1, 1, 1}}, nil},
		{[][]int{{0, 0, 0, 0, 0}, {2, 0, 0, 0, 0}}, []api.Place{first}},
		{[][]int{{0, 0, 0, 0, 0}, {0, 0, 1, 0, 0}}, []api.Place{stem}},
		{[][]int{{0, 0, 0, 0, 0}, {0, 0, 0, 1, 1}}, []api.Place{text, last}},
		{[][]int{{0, 1, 0, 0, 0}, {0, 0, 0, 0, 0}, {0, 1, 0, 0, 0}}, []api.Place{dot}},
		{[][]int{{0, 0, 0, 0, 0}, {0, 0, 0, 0, 0}, {1, 1, 1, 1, 1}}, []api.Place{first, dot, stem, text, last}},
		{[][]int{{1, 0, 0, 0, 0}, {0, 0, 0, 0, 0}, {0, 0, 1, 0, 0}}, []api.Place{first, stem}},
	} {
		var l []solve.Solution
		for _, choice := range x.l {
			l = append(l, solve.Solution{Choice: choice, Cost: -1})
		}
		if places, e := solve.Differ(c, l); e != api.OK || !same(places, x.want) {
			t.Errorf("%v: %+v, error %d, want %+v", x.l, places, e, x.want)
		}
	}
	if places, e := solve.Differ(one(), []solve.Solution{{}, {Choice: []int{}}}); e != api.OK || len(places) != 0 {
		t.Errorf("no features: %v, error %d", places, e)
	}
	// More choices than may be gone through.
	if places, e := solve.Differ(bits(20), []solve.Solution{{Choice: make([]int, 20)}, {Choice: slices.Repeat([]int{1}, 20)}}); e != api.OK || len(places) != 20 {
		t.Errorf("many features: %v, error %d", places, e)
	}
}

func TestDifferByDefinition(t *testing.T) {
	r := rand.New(rand.NewSource(2))
	for range 2000 {
		c := guess(r)
		choices := choicesBy(c)
		var l []solve.Solution
		for range r.Intn(4) {
			l = append(l, solve.Solution{Choice: choices[r.Intn(len(choices))]})
		}
		if got, e := solve.Differ(c, l); e != api.OK || !same(got, differBy(c, l)) {
			t.Fatalf("%+v of %+v: %+v, error %d, want %+v", l, c, got, e, differBy(c, l))
		}
	}
}
