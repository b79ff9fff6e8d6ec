package cell_test

import (
	"math/rand"
	"reflect"
	"slices"
	"testing"

	"custos/api"
	"custos/cell"
	"custos/font"
)

// crowded returns an image with heads that may touch each other, and some noise.
func crowded(r *rand.Rand) api.Ink {
	k := paper()
	for range 1 + r.Intn(8) {
		step := -4 + r.Intn(17)
		stamp(k, font.Heads, 1+r.Intn(3), 7, 58-3*step)
		if r.Intn(2) == 0 {
			fill(k, 6, 60-3*step, 8, 1)
		}
	}
	for range r.Intn(25) {
		flip(k, 7+r.Intn(6), 22+r.Intn(53))
	}
	return k
}

// images returns suitable images of all sorts.
func images(r *rand.Rand) []api.Ink {
	l := []api.Ink{paper(), plain(24, 108, 1), linedOf(paper())}
	for _, c := range append(ordinary(), full(), rest(4, 0, 0), rest(0, 1, 16)) {
		k, _ := cell.Bare(c)
		l = append(l, k)
	}
	for range 40 {
		k, _ := cell.Bare(someEvent(r))
		d, _ := cell.Draw(someCell(r))
		l = append(l, k, d, spoilt(r, k, 1+r.Intn(200)), crowded(r), spoilt(r, paper(), r.Intn(2000)))
	}
	return l
}

func TestIsBar(t *testing.T) {
	for bar := api.Single; bar <= api.Close; bar++ {
		k := bare(t, api.Cell{Kind: api.BarCell, Bar: bar, Free: bar == api.Double})
		// No barline has ink in the first column of the window.
		for n := range 25 {
			if b := cell.IsBar(k); b != (n <= 6) {
				t.Errorf("bar %d with %d pixels against it: %v", bar, n, b)
			}
			flip(k, 6, 36+n)
		}
		k = bare(t, api.Cell{Kind: api.BarCell, Bar: bar})
		for x := range 24 {
			for y := range 108 {
				if x < 6 || x > 15 || y < 36 || y > 60 {
					flip(k, x, y)
				}
			}
		}
		if !cell.IsBar(k) {
			t.Error("outside of the window all is ink: bar", bar)
		}
	}
	for _, k := range []api.Ink{paper(), plain(24, 108, 1), linedOf(paper()), linedOf(bare(t, api.Cell{Kind: api.BarCell, Bar: 1}))} {
		if cell.IsBar(k) {
			t.Errorf("a barline in\n%s", font.Show(k))
		}
	}
}

func TestIsBarByDefinition(t *testing.T) {
	r := rand.New(rand.NewSource(4))
	for range 300 {
		k := spoilt(r, bare(t, api.Cell{Kind: api.BarCell, Bar: api.Bar(1 + r.Intn(5))}), 10+r.Intn(90))
		if b := cell.IsBar(k); b != (optionsOf(k, api.WBar, 0)[0].Miss <= 6) {
			t.Errorf("%v for\n%s", b, font.Show(k))
		}
	}
}

func TestSeen(t *testing.T) {
	k := bare(t, full())
	if l := cell.Seen(k); !slices.Equal(l, []api.Head{{Step: -4, Kind: 2}, {Step: 1, Kind: 2}, {Step: 3, Kind: 2}, {Step: 6, Kind: 1}, {Step: 8, Kind: 1}, {Step: 11, Kind: 1}}) {
		t.Error(l)
	}
	for _, k := range []api.Ink{paper(), plain(24, 108, 1), linedOf(paper()), bare(t, rest(0, 4, 2))} {
		if l := cell.Seen(k); len(l) != 0 {
			t.Errorf("%v in\n%s", l, font.Show(k))
		}
	}
}

// TestHeadMost spoils heads pixel by pixel.
func TestHeadMost(t *testing.T) {
	for step := -4; step <= 12; step++ {
		for kind := 1; kind <= 3; kind++ {
			k := bare(t, event([]api.Head{{Step: step, Kind: kind}}))
			for n := range 6 {
				l := cell.Seen(k)
				if n <= 3 && !slices.Equal(l, []api.Head{{Step: step, Kind: kind}}) || n > 3 && len(l) != 0 {
					t.Errorf("head %d at %d with %d pixels against it: %v", kind, step, n, l)
				}
				// All heads have ink in the first row, and paper in its corners.
				flip(k, []int{7, 8, 9, 10, 11, 12}[n], 58-3*step)
			}
		}
	}
}

// TestHeadsTooClose has two heads at steps next to each other: each one has two pixels of ink from the other one.
func TestHeadsTooClose(t *testing.T) {
	for low := -4; low < 12; low++ {
		k := paper()
		for _, step := range []int{low, low + 1} {
			stamp(k, font.Heads, 1, 7, 58-3*step)
			if step >= 10 || step <= -2 {
				fill(k, 6, 60-3*step, 8, 1)
			}
		}
		if l := cell.Seen(k); !slices.Equal(l, black(low)) {
			t.Error("the same Miss:", low, l)
		}
		// One pixel less in the lower head.
		flip(k, 9, 62-3*low)
		if l := cell.Seen(k); !slices.Equal(l, black(low+1)) {
			t.Error("the upper one has a lesser Miss:", low, l)
		}
	}
}

// TestHeadsInRow has heads at the steps 2, 3 and 4 with the Miss 2, 3 and 3: the second one is hidden by the first one, and hides none itself.
func TestHeadsInRow(t *testing.T) {
	k := from(46, `
........####............
.......######...........
.......######...........
........####............
........#####...........
.......######...........
.......######...........
.......######...........
.......######...........
.......######...........
........####............
`)
	for step, want := range map[int]int{2: 2, 3: 3, 4: 3} {
		if o := optionsOf(k, api.WHead, step)[0]; o != (api.Option{Value: 1, Miss: want}) {
			t.Fatalf("the head at %d: %v", step, o)
		}
	}
	if l := cell.Seen(k); !slices.Equal(l, black(2, 4)) {
		t.Error(l)
	}
}

func TestSeenByDefinition(t *testing.T) {
	r := rand.New(rand.NewSource(5))
	sums := map[int]int{}
	for range 700 {
		k := crowded(r)
		was := twin(k)
		l := cell.Seen(k)
		if want := seenOf(k); !slices.Equal(l, want) {
			t.Errorf("%v, want %v in\n%s", l, want, font.Show(k))
		}
		if !same(k, was) {
			t.Fatal("the image was changed")
		}
		sums[len(l)]++
	}
	if sums[0] == 700 || sums[1] == 0 || sums[2] == 0 || sums[3] == 0 {
		t.Error("how many heads are seen how often:", sums)
	}
}

func TestWindows(t *testing.T) {
	for w := api.What(-2); w <= 20; w++ {
		for index := -30; index <= 30; index++ {
			if l, want := cell.Windows(w, index), windowsOf(w, index); !slices.Equal(l, want) {
				t.Errorf("feature %d at %d: %v, want %v", w, index, l, want)
			}
		}
		for _, index := range extremes {
			if l := cell.Windows(w, index); len(l) != 0 {
				t.Errorf("feature %d at %d: %v", w, index, l)
			}
		}
	}
	for _, n := range extremes {
		if l := cell.Windows(api.What(n), 0); len(l) != 0 {
			t.Errorf("feature %d: %v", n, l)
		}
	}
	l := cell.Windows(api.WBeam, 0)
	l[0].X, l[1].X = 5, 5
	if l := cell.Windows(api.WBeam, 0); !slices.Equal(l, windowsOf(api.WBeam, 0)) {
		t.Error("changed:", l)
	}
}

// TestWindowsOfTable has the numbers of the table itself.
func TestWindowsOfTable(t *testing.T) {
	for _, x := range []struct {
		w     api.What
		index int
		want  []api.Rect
	}{
		{api.WClef, 0, []api.Rect{{X: 7, Y: 36, W: 6, H: 25}}},
		{api.WKey, 3, []api.Rect{{X: 16, Y: 30, W: 4, H: 31}}},
		{api.WBar, 0, []api.Rect{{X: 6, Y: 36, W: 10, H: 25}}},
		{api.WHead, 12, []api.Rect{{X: 7, Y: 22, W: 6, H: 5}}},
		{api.WAcc, -4, []api.Rect{{X: 1, Y: 70, W: 4, H: 5}}},
		{api.WDot, 4, []api.Rect{{X: 17, Y: 46, W: 2, H: 5}}},
		{api.WTie, 5, []api.Rect{{X: 20, Y: 43, W: 3, H: 5}}},
		{api.WRest, 1, []api.Rect{{X: 7, Y: 27, W: 6, H: 7}}},
		{api.WRestDot, 2, []api.Rect{{X: 17, Y: 64, W: 2, H: 5}}},
		{api.WStem, 1, []api.Rect{{X: 6, Y: 75, W: 1, H: 5}}},
		{api.WBeam, 1, []api.Rect{{X: 0, Y: 15, W: 13, H: 2}, {X: 14, Y: 15, W: 10, H: 2}}},
		{api.WText, 3, []api.Rect{{X: 17, Y: 96, W: 4, H: 5}}},
	} {
		if l := cell.Windows(x.w, x.index); !slices.Equal(l, x.want) {
			t.Errorf("feature %d at %d: %v", x.w, x.index, l)
		}
	}
}

func TestReadExamples(t *testing.T) {
	l := features(t, bare(t, api.Cell{Kind: api.EventCell, Heads: black(4), Stem: [2]bool{true, false}}), api.EventCell)
	var places []api.Place
	for _, f := range l {
		places = append(places, f.Place)
	}
	if !slices.Equal(places, []api.Place{
		{What: api.WHead, Index: 4}, {What: api.WAcc, Index: 4}, {What: api.WDot, Index: 4}, {What: api.WTie, Index: 4},
		{What: api.WRest, Index: 1}, {What: api.WRestDot, Index: 1}, {What: api.WRest, Index: 2}, {What: api.WRestDot, Index: 2},
		{What: api.WStem}, {What: api.WStem, Index: 1},
		{What: api.WBeam}, {What: api.WBeam, Index: 1}, {What: api.WBeam, Index: 2}, {What: api.WBeam, Index: 3},
		{What: api.WTriple}, {What: api.WTriple, Index: 1},
		{What: api.WText}, {What: api.WText, Index: 1}, {What: api.WText, Index: 2}, {What: api.WText, Index: 3},
	}) {
		t.Error(places)
	}
	if o := l[0].Options; !slices.Equal(o, []api.Option{{Value: 1, Miss: 0}, {Value: 3, Miss: 6}, {Value: 2, Miss: 12}}) {
		t.Error("the head:", o)
	}
	if o := of(t, l, api.WStem, 1).Options; !slices.Equal(o, []api.Option{{Value: 0, Miss: 0}, {Value: 1, Miss: 5}}) {
		t.Error("the stem down:", o)
	}
	if o := of(t, l, api.WBeam, 2).Options; !slices.Equal(o, []api.Option{{Value: 0, Miss: 0}, {Value: 1, Miss: 6}, {Value: 3, Miss: 12}, {Value: 2, Miss: 34}, {Value: 4, Miss: 46}}) {
		t.Error("the first beam below:", o)
	}
	l = features(t, bare(t, event([]api.Head{{Step: 12, Kind: 2}})), api.EventCell)
	if o := l[0]; o.Place != (api.Place{What: api.WHead, Index: 12}) || o.Options[0] != (api.Option{Value: 2, Miss: 0}) {
		t.Error("a head with ledger lines:", o)
	}
	l = features(t, paper(), api.KeyCell)
	if o := l[1].Options; len(l) != 4 || !slices.Equal(o, []api.Option{{Value: 0, Miss: 0}, {Value: 2, Miss: 12}, {Value: 1, Miss: 18}}) {
		t.Error("a sign of a key:", o)
	}
}

// TestZones has the zones that are looked at.
func TestZones(t *testing.T) {
	for _, x := range []struct {
		heads []api.Head
		zones []int
	}{
		{nil, []int{0, 1, 2}},
		{black(4), []int{1, 2}},
		{black(5), []int{2}},
		{black(3), []int{1}},
		{black(12), []int{2}},
		{black(-4, 4), []int{1}},
		{black(4, 6), []int{2}},
		{black(3, 5), nil},
	} {
		var zones, dots []int
		for _, f := range features(t, bare(t, event(x.heads)), api.EventCell) {
			switch f.Place.What {
			case api.WRest:
				zones = append(zones, f.Place.Index)
			case api.WRestDot:
				dots = append(dots, f.Place.Index)
			}
		}
		if !slices.Equal(zones, x.zones) || !slices.Equal(dots, x.zones) {
			t.Errorf("heads %v: zones %v and %v", x.heads, zones, dots)
		}
	}
}

func TestReadByDefinition(t *testing.T) {
	r := rand.New(rand.NewSource(6))
	for i, k := range images(r) {
		was := twin(k)
		for _, kind := range kinds {
			l := features(t, k, kind)
			if want := readOf(k, kind); !reflect.DeepEqual(l, want) {
				t.Fatalf("image %d read as %d:\n%v, want\n%v\n%s", i, kind, l, want, font.Show(k))
			}
		}
		if !same(k, was) {
			t.Fatal("the image was changed")
		}
	}
}

func TestReadIsNew(t *testing.T) {
	k := bare(t, full())
	for _, kind := range kinds {
		l, want := features(t, k, kind), features(t, k, kind)
		for i := range l {
			for j := range l[i].Options {
				l[i].Options[j] = api.Option{Value: -5, Miss: -5}
			}
			l[i].Options = append(l[i].Options, api.Option{})
		}
		if again := features(t, k, kind); !reflect.DeepEqual(again, want) {
			t.Error("changed:", again)
		}
	}
}

func TestUnsuitable(t *testing.T) {
	for i, k := range unsuitable() {
		if cell.IsBar(k) || len(cell.Seen(k)) != 0 {
			t.Error(i, "IsBar or Seen")
		}
		for _, kind := range append(noKinds, kinds...) {
			if l, e := cell.Read(k, kind); l != nil || e != api.ErrSize {
				t.Errorf("image %d read as %d: error %d", i, kind, e)
			}
		}
	}
	for _, kind := range noKinds {
		if l, e := cell.Read(paper(), kind); l != nil || e != api.ErrArg {
			t.Errorf("read as %d: error %d", kind, e)
		}
	}
}
