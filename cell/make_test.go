package cell_test

import (
	"maps"
	"math"
	"math/rand"
	"reflect"
	"slices"
	"strings"
	"testing"

	"custos/api"
	"custos/cell"
)

// table has the values of all features.
var table = map[api.What][]int{
	api.WClef: {1, 2, 3}, api.WKey: {0, 1, 2}, api.WBeats: {1, 2, 3, 4, 5, 6, 7, 8, 9}, api.WUnit: {2, 4, 8}, api.WBar: {1, 2, 3, 4, 5}, api.WFree: {0, 1},
	api.WHead: {1, 2, 3}, api.WAcc: {0, 1, 2, 3}, api.WDot: {0, 1}, api.WTie: {0, 1}, api.WRest: {0, 1, 2, 4, 8, 16}, api.WRestDot: {0, 1},
	api.WStem: {0, 1}, api.WBeam: {0, 1, 2, 3, 4}, api.WTriple: {0, 1},
	api.WText: {0, 1, 2, 3, 4, 5, 6, 7, 8, 9, 10, 11, 12, 13, 14, 15, 16, 17, 18, 19, 20, 21, 22, 23, 24, 25, 26, 27},
}

// whats has the features of each kind.
var whats = map[api.Kind][]api.What{
	api.ClefCell: {api.WClef}, api.KeyCell: {api.WKey}, api.MeterCell: {api.WBeats, api.WUnit}, api.BarCell: {api.WBar, api.WFree},
	api.EventCell: {api.WHead, api.WAcc, api.WDot, api.WTie, api.WRest, api.WRestDot, api.WStem, api.WBeam, api.WTriple, api.WText},
}

// spot is where a feature stands in a cell.
type spot struct {
	w     api.What
	index int
}

// makeOf is Make by its definition.
func makeOf(kind api.Kind, l []api.Feature, choice []int) (api.Cell, api.Errno) {
	if whats[kind] == nil || len(l) != len(choice) {
		return api.Cell{}, api.ErrArg
	}
	chosen := map[spot]int{}
	for i, f := range l {
		at := spot{f.Place.What, f.Place.Index}
		_, twice := chosen[at]
		_, head := chosen[spot{api.WHead, at.index}]
		if !slices.Contains(whats[kind], at.w) || windowsOf(at.w, at.index) == nil || twice ||
			slices.Contains([]api.What{api.WAcc, api.WDot, api.WTie}, at.w) && !head ||
			choice[i] < 0 || choice[i] >= len(f.Options) || !slices.Contains(table[at.w], f.Options[choice[i]].Value) {
			return api.Cell{}, api.ErrArg
		}
		chosen[at] = f.Options[choice[i]].Value
	}
	c := cellOf(kind, chosen)
	var keys, letters string
	for i := range 4 {
		keys += string("012"[chosen[spot{api.WKey, i}]])
		letters += string(" abcdefghijklmnopqrstuvwxyz-"[chosen[spot{api.WText, i}]])
	}
	for key := -4; key <= 4; key++ {
		if keys == (strings.Repeat("1", max(key, 0)) + strings.Repeat("2", max(-key, 0)) + "0000")[:4] {
			c.Key, keys = key, ""
		}
	}
	c.Text = strings.TrimRight(letters, " ")
	switch {
	case keys != "":
		return api.Cell{}, api.ErrKey
	case !rightCell(api.Cell{Kind: api.EventCell, Text: c.Text}):
		return api.Cell{}, api.ErrText
	case !rightCell(c):
		return api.Cell{}, api.ErrCell
	}
	return c, api.OK
}

// cellOf returns the cell with the values that are chosen, but for its key and its text.
func cellOf(kind api.Kind, chosen map[spot]int) api.Cell {
	c := api.Cell{Kind: kind}
	for step := -4; step <= 12; step++ {
		if head, ok := chosen[spot{api.WHead, step}]; ok {
			c.Heads = append(c.Heads, api.Head{
				Step: step, Kind: head, Acc: chosen[spot{api.WAcc, step}],
				Dot: chosen[spot{api.WDot, step}] == 1, Tie: chosen[spot{api.WTie, step}] == 1,
			})
		}
	}
	for at, value := range chosen {
		switch at.w {
		case api.WClef:
			c.Clef = api.Clef(value)
		case api.WBeats:
			c.Beats = value
		case api.WUnit:
			c.Unit = value
		case api.WBar:
			c.Bar = api.Bar(value)
		case api.WFree:
			c.Free = value == 1
		case api.WRest:
			c.Rest[at.index] = api.Value(value)
		case api.WRestDot:
			c.RestDot[at.index] = value == 1
		case api.WStem:
			c.Stem[at.index] = value == 1
		case api.WBeam:
			c.Beam[at.index] = value
		case api.WTriple:
			c.Triple[at.index] = value == 1
		}
	}
	return c
}

// parts returns the features that ask just for a cell, each with one option.
func parts(c api.Cell) []api.Feature {
	number := map[bool]int{true: 1}
	var l []api.Feature
	switch c.Kind {
	case api.ClefCell:
		return append(l, asking(api.WClef, 0, int(c.Clef)))
	case api.KeyCell:
		for i := range max(c.Key, -c.Key) {
			l = append(l, asking(api.WKey, i, map[bool]int{true: 1, false: 2}[c.Key > 0]))
		}
		return l
	case api.MeterCell:
		return append(l, asking(api.WBeats, 0, c.Beats), asking(api.WUnit, 0, c.Unit))
	case api.BarCell:
		return append(l, asking(api.WBar, 0, int(c.Bar)), asking(api.WFree, 0, number[c.Free]))
	}
	for _, h := range c.Heads {
		l = append(l, asking(api.WHead, h.Step, h.Kind), asking(api.WAcc, h.Step, h.Acc), asking(api.WDot, h.Step, number[h.Dot]), asking(api.WTie, h.Step, number[h.Tie]))
	}
	for zone := range 3 {
		l = append(l, asking(api.WRest, zone, int(c.Rest[zone])), asking(api.WRestDot, zone, number[c.RestDot[zone]]))
	}
	for i := range 4 {
		l = append(l, asking(api.WBeam, i, c.Beam[i]))
		if i < 2 {
			l = append(l, asking(api.WStem, i, number[c.Stem[i]]), asking(api.WTriple, i, number[c.Triple[i]]))
		}
		if i < len(c.Text) {
			l = append(l, asking(api.WText, i, 1+strings.IndexByte("abcdefghijklmnopqrstuvwxyz-", c.Text[i])))
		}
	}
	return l
}

// TestMakeParts makes cells of features in their order, and in another one.
func TestMakeParts(t *testing.T) {
	r := rand.New(rand.NewSource(7))
	cells := append(ordinary(), full())
	for range 3000 {
		cells = append(cells, someEvent(r))
	}
	for _, c := range cells {
		l := parts(c)
		if got, e := cell.Make(c.Kind, l, make([]int, len(l))); e != api.OK || !equal(got, c) {
			t.Errorf("error %d: %+v, want %+v", e, got, c)
		}
		r.Shuffle(len(l), func(i, j int) { l[i], l[j] = l[j], l[i] })
		slices.SortStableFunc(l, func(a, b api.Feature) int { return headFirst(a) - headFirst(b) })
		if got, e := cell.Make(c.Kind, l, make([]int, len(l))); e != api.OK || !equal(got, c) {
			t.Errorf("error %d: %+v in another order, want %+v", e, got, c)
		}
	}
}

// headFirst is less for heads than for other features.
func headFirst(f api.Feature) int {
	if f.Place.What == api.WHead {
		return 0
	}
	return 1
}

// TestMakeChooses has features with several options, in any order and some of them twice.
func TestMakeChooses(t *testing.T) {
	l := []api.Feature{asking(api.WBeats, 0, 3, 3, 9, 1), asking(api.WUnit, 0, 8, 2, 4)}
	for i, beats := range []int{3, 3, 9, 1} {
		for j, unit := range []int{8, 2, 4} {
			c, e := cell.Make(api.MeterCell, l, []int{i, j})
			if e != api.OK || !equal(c, api.Cell{Kind: api.MeterCell, Beats: beats, Unit: unit}) {
				t.Errorf("%d and %d: error %d, %+v", i, j, e, c)
			}
		}
	}
	// What an option that is not chosen has for a value does not matter.
	c, e := cell.Make(api.ClefCell, []api.Feature{asking(api.WClef, 0, 7, 2, -1)}, []int{1})
	if e != api.OK || !equal(c, api.Cell{Kind: api.ClefCell, Clef: api.Alto}) {
		t.Errorf("error %d, %+v", e, c)
	}
}

func TestMakeOfLittle(t *testing.T) {
	one := func(c api.Cell, l ...api.Feature) {
		t.Helper()
		got, e := cell.Make(c.Kind, l, make([]int, len(l)))
		if want := cell.Check(c); e != want || e == api.OK && !equal(got, c) || e != api.OK && !equal(got, api.Cell{}) {
			t.Errorf("error %d, %+v, want %+v", e, got, c)
		}
	}
	for _, kind := range kinds {
		one(api.Cell{Kind: kind})
	}
	one(api.Cell{Kind: api.MeterCell, Beats: 3}, asking(api.WBeats, 0, 3))
	one(api.Cell{Kind: api.MeterCell, Unit: 4}, asking(api.WUnit, 0, 4))
	one(api.Cell{Kind: api.BarCell, Bar: 3}, asking(api.WBar, 0, 3))
	one(api.Cell{Kind: api.BarCell, Free: true}, asking(api.WFree, 0, 1))
	one(event(black(6)), asking(api.WHead, 6, 1))
	one(event([]api.Head{{Step: 6, Kind: 2, Tie: true}}), asking(api.WHead, 6, 2), asking(api.WTie, 6, 1))
	one(event(black(-4, 3, 12)), asking(api.WHead, 12, 1), asking(api.WHead, -4, 1), asking(api.WHead, 3, 1))
	one(api.Cell{Kind: api.EventCell, Beam: [4]int{0, 0, 0, 4}}, asking(api.WBeam, 3, 4))
	one(api.Cell{Kind: api.EventCell, RestDot: [3]bool{false, true, false}}, asking(api.WRestDot, 1, 1))
	one(api.Cell{Kind: api.EventCell, Stem: [2]bool{false, true}}, asking(api.WStem, 1, 1))
	one(event(black(2, 3)), asking(api.WHead, 3, 1), asking(api.WHead, 2, 1))
	one(event(black(2, 2)), asking(api.WRest, 0, 4), asking(api.WHead, 2, 1))
}

// wrongFeatures has lists of features for events of which the last one is not allowed.
func wrongFeatures() [][]api.Feature {
	other := asking(api.WStem, 0, 1)
	other.Place.System, other.Place.Staff, other.Place.Slot = 1, 2, 3
	l := [][]api.Feature{
		{asking(api.WHead, 3, 1), asking(api.WHead, 3, 2)},
		{asking(api.WStem, 0, 0), asking(api.WStem, 1, 0), asking(api.WStem, 0, 0)},
		{asking(api.WStem, 0, 0), other},
		{asking(api.WAcc, 3, 0)},
		{asking(api.WHead, 4, 1), asking(api.WAcc, 3, 0)},
		{asking(api.WHead, 4, 1), asking(api.WDot, 5, 0)},
		{asking(api.WTie, 3, 0), asking(api.WHead, 3, 1)},
		{asking(api.WHead, 3, 1), asking(api.WTie, 3, 0), asking(api.WTie, 3, 0)},
		{asking(api.WHead, 3, 0)},
		{asking(api.WRest, 0, 3)},
		{asking(api.WText, 0, 28)},
	}
	for kind := range whats {
		for _, w := range whats[kind] {
			if kind != api.EventCell {
				l = append(l, []api.Feature{asking(w, 0, table[w][0])})
			}
		}
	}
	for _, n := range append([]int{-1, 0, 17}, extremes...) {
		l = append(l, []api.Feature{asking(api.What(n), 0, 1)})
	}
	for _, n := range append([]int{-5, 13, 17}, extremes...) {
		for _, w := range whats[api.EventCell] {
			l = append(l, []api.Feature{asking(w, n, 1)}, []api.Feature{asking(api.WHead, 4, 1), asking(w, n, 1)})
		}
	}
	return l
}

func TestMakeArguments(t *testing.T) {
	for _, l := range wrongFeatures() {
		if c, e := cell.Make(api.EventCell, l, make([]int, len(l))); e != api.ErrArg || !equal(c, api.Cell{}) {
			t.Errorf("error %d for %v", e, l)
		}
	}
	for _, kind := range noKinds {
		if c, e := cell.Make(kind, nil, nil); e != api.ErrArg || !equal(c, api.Cell{}) {
			t.Errorf("error %d for the kind %d", e, kind)
		}
		if _, e := cell.Make(kind, []api.Feature{asking(api.WClef, 0, 1)}, []int{0}); e != api.ErrArg {
			t.Errorf("error %d for the kind %d", e, kind)
		}
	}
	l := []api.Feature{asking(api.WRest, 0, 4), asking(api.WStem, 0, 0)}
	for _, choice := range [][]int{nil, {0}, {0, 0, 0}, {0, 1}, {1, 0}, {0, -1}, {-1, 0}, {math.MinInt, 0}, {0, math.MaxInt}} {
		if c, e := cell.Make(api.EventCell, l, choice); e != api.ErrArg || !equal(c, api.Cell{}) {
			t.Errorf("error %d for %v", e, choice)
		}
	}
	if _, e := cell.Make(api.EventCell, []api.Feature{asking(api.WRest, 0)}, []int{0}); e != api.ErrArg {
		t.Error("a feature without options:", e)
	}
}

// TestMakeValues has all values of all features, and others.
func TestMakeValues(t *testing.T) {
	for kind, l := range whats {
		for _, w := range l {
			for _, value := range append([]int{-16, -2, -1, 0, 1, 2, 3, 4, 5, 6, 7, 8, 9, 10, 11, 15, 16, 17, 26, 27, 28, 29, 32, 64}, extremes...) {
				f := []api.Feature{asking(w, 0, value)}
				if w >= api.WAcc && w <= api.WTie {
					f = []api.Feature{asking(api.WHead, 0, 1), asking(w, 0, value)}
				}
				_, e := cell.Make(kind, f, make([]int, len(f)))
				if right := slices.Contains(table[w], value); (e != api.ErrArg) != right {
					t.Errorf("feature %d with the value %d: error %d", w, value, e)
				}
			}
		}
	}
}

// TestMakeWords has all values of the four features of a key, and some of the four of a text.
func TestMakeWords(t *testing.T) {
	for w, x := range map[api.What]struct {
		kind   api.Kind
		wrong  api.Errno
		values []int
		right  int
	}{
		api.WKey:  {api.KeyCell, api.ErrKey, []int{0, 1, 2}, 9},
		api.WText: {api.EventCell, api.ErrText, []int{0, 1, 26, 27}, 1 + 2 + 4 + 8 + 16 + 2 + 4 + 8},
	} {
		n, right := len(x.values), 0
		for code := range n * n * n * n {
			l := []api.Feature{
				asking(w, 3, x.values[code%n]), asking(w, 0, x.values[code/n%n]),
				asking(w, 2, x.values[code/n/n%n]), asking(w, 1, x.values[code/n/n/n]),
			}
			got, e := cell.Make(x.kind, l, make([]int, 4))
			want, f := makeOf(x.kind, l, make([]int, 4))
			if e != f || !equal(got, want) || e != api.OK && e != x.wrong {
				t.Errorf("%v: error %d, %+v", l, e, got)
			}
			if e == api.OK {
				right++
			}
		}
		if right != x.right {
			t.Errorf("feature %d: %d are right", w, right)
		}
	}
}

// TestMakeGaps has features of keys and texts of which some are not there.
func TestMakeGaps(t *testing.T) {
	for _, x := range []struct {
		l []api.Feature
		e api.Errno
	}{
		{[]api.Feature{asking(api.WKey, 0, 1), asking(api.WKey, 1, 1)}, api.OK},
		{[]api.Feature{asking(api.WKey, 1, 1), asking(api.WKey, 0, 1)}, api.OK},
		{[]api.Feature{asking(api.WKey, 2, 0)}, api.OK},
		{[]api.Feature{asking(api.WKey, 1, 1)}, api.ErrKey},
		{[]api.Feature{asking(api.WKey, 0, 2), asking(api.WKey, 2, 2)}, api.ErrKey},
		{[]api.Feature{asking(api.WText, 0, 7), asking(api.WText, 1, 27)}, api.OK},
		{[]api.Feature{asking(api.WText, 3, 0)}, api.OK},
		{[]api.Feature{asking(api.WText, 1, 7)}, api.ErrText},
		{[]api.Feature{asking(api.WText, 0, 7), asking(api.WText, 2, 27)}, api.ErrText},
		{[]api.Feature{asking(api.WText, 0, 27)}, api.ErrText},
		// ErrText comes before ErrCell, and after ErrArg
		{[]api.Feature{asking(api.WText, 0, 27), asking(api.WStem, 0, 1)}, api.ErrText},
		{[]api.Feature{asking(api.WText, 0, 27), asking(api.WStem, 0, 2)}, api.ErrArg},
		{[]api.Feature{asking(api.WKey, 0, 1), asking(api.WKey, 1, 2), asking(api.WKey, 2, 3)}, api.ErrArg},
	} {
		kind := api.EventCell
		if x.l[0].Place.What == api.WKey {
			kind = api.KeyCell
		}
		if c, e := cell.Make(kind, x.l, make([]int, len(x.l))); e != x.e || e != api.OK && !equal(c, api.Cell{}) {
			t.Errorf("error %d for %v", e, x.l)
		}
	}
}

// TestMakeByDefinition spoils features that are read.
func TestMakeByDefinition(t *testing.T) {
	r := rand.New(rand.NewSource(8))
	errors := map[api.Errno]int{}
	for range 4000 {
		c := someCell(r)
		l := parts(c)
		choice := make([]int, len(l))
		for range r.Intn(4) {
			l, choice = spoiltFeatures(r, l, choice)
		}
		if r.Intn(20) == 0 {
			c.Kind = api.Kind(r.Intn(8) - 1)
		}
		given, chosen := cloned(l), slices.Clone(choice)
		got, e := cell.Make(c.Kind, l, choice)
		if want, f := makeOf(c.Kind, l, choice); e != f || !equal(got, want) {
			t.Errorf("error %d, want %d; %+v, want %+v, for %v", e, f, got, want, l)
		}
		if !reflect.DeepEqual(l, given) || !slices.Equal(choice, chosen) {
			t.Fatal("an argument was changed")
		}
		errors[e]++
	}
	for _, e := range []api.Errno{api.OK, api.ErrArg, api.ErrKey, api.ErrText, api.ErrCell} {
		if errors[e] < 10 {
			t.Error("how often each error comes:", errors)
		}
	}
}

// spoiltFeatures changes one thing of features and a choice.
func spoiltFeatures(r *rand.Rand, l []api.Feature, choice []int) ([]api.Feature, []int) {
	all := slices.Sorted(maps.Keys(table))
	w := all[r.Intn(len(all))]
	if len(l) == 0 {
		return append(l, asking(w, r.Intn(4), table[w][0])), append(choice, 0)
	}
	i := r.Intn(len(l))
	w = l[i].Place.What
	values := table[w]
	switch r.Intn(12) {
	case 0:
		choice[i] = r.Intn(3) - 1
	case 1:
		return append(l, l[i]), append(choice, choice[i])
	case 2:
		return slices.Delete(l, i, i+1), slices.Delete(choice, i, i+1)
	case 3:
		l[i].Place.Index += r.Intn(3) - 1
	case 4, 5, 6, 7, 8:
		l[i].Options = []api.Option{{Value: values[r.Intn(len(values))], Miss: r.Intn(9)}}
	case 9:
		l[i].Options = []api.Option{{Value: r.Intn(30) - 1}}
	case 10:
		j := r.Intn(len(l))
		l[i], l[j] = l[j], l[i]
	case 11:
		l[i].Place.Slot += r.Intn(9)
	}
	return l, choice
}

// cloned returns the same features in new memory.
func cloned(l []api.Feature) []api.Feature {
	out := slices.Clone(l)
	for i := range out {
		out[i].Options = slices.Clone(out[i].Options)
	}
	return out
}

func TestMakeIsNew(t *testing.T) {
	l := parts(full())
	a, _ := cell.Make(api.EventCell, l, make([]int, len(l)))
	b, _ := cell.Make(api.EventCell, l, make([]int, len(l)))
	a.Heads[0].Step = 100
	if !equal(b, full()) {
		t.Error("two cells share memory")
	}
}
