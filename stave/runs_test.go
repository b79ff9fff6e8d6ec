package stave_test

import (
	"bytes"
	"math"
	"math/rand"
	"slices"
	"testing"

	"custos/api"
	"custos/image"
	"custos/stave"
)

// runsOf is Runs by its definition: it stretches a run up and down from each pixel of a line.
func runsOf(g api.Ink, staves []api.Stave, most int) []api.Run {
	found := map[api.Run]bool{}
	for _, s := range staves {
		for _, line := range s.Lines {
			for x, y := range line {
				if !image.At(g, x, y) {
					continue
				}
				r := api.Run{At: x, From: y, To: y}
				for image.At(g, x, r.From-1) {
					r.From--
				}
				for image.At(g, x, r.To+1) {
					r.To++
				}
				found[r] = r.To-r.From+1 <= most
			}
		}
	}
	var l []api.Run
	for x := range g.W {
		for y := range g.H {
			for to := y; to < g.H; to++ {
				if r := (api.Run{At: x, From: y, To: to}); found[r] {
					l = append(l, r)
				}
			}
		}
	}
	return l
}

// crossed returns a page of 10 columns with a stave, a stem in column 7, a dot below the lowest line in column 3, a speck, and a hole in column 5.
func crossed() api.Ink {
	g := ruled(10, 34, 4, 10, 16, 22, 28)
	for y := 8; y < 20; y++ {
		g.Pix[y*10+7] = 1
	}
	g.Pix[29*10+3], g.Pix[10+1], g.Pix[16*10+5] = 1, 1, 0
	return g
}

func TestRuns(t *testing.T) {
	l, e := stave.Runs(crossed(), []api.Stave{wide()}, 1)
	var want []api.Run
	for x := range 10 {
		for _, y := range []int{4, 10, 16, 22, 28} {
			if x == 7 && (y == 10 || y == 16) || x == 3 && y == 28 || x == 5 && y == 16 {
				continue
			}
			want = append(want, api.Run{At: x, From: y, To: y})
		}
	}
	if e != api.OK || !slices.Equal(l, want) {
		t.Error("Runs", l, e)
	}
}

// TestRunsByLength has runs of each length from 1 to 12.
func TestRunsByLength(t *testing.T) {
	for most, want := range map[int]int{math.MinInt: 0, -1: 0, 0: 0, 1: 46, 2: 47, 3: 47, 11: 47, 12: 48, 13: 48, math.MaxInt: 48} {
		l, e := stave.Runs(crossed(), []api.Stave{wide()}, most)
		if e != api.OK || len(l) != want {
			t.Errorf("Runs with most %d: %d, %d, want %d", most, len(l), e, want)
		}
		if long := slices.Contains(l, api.Run{At: 7, From: 8, To: 19}); long != (most >= 12) {
			t.Errorf("Runs with most %d: the stem %v", most, long)
		}
	}
	if l, e := stave.Runs(plain(1, 640, 1), []api.Stave{{Lines: flat(1, 0, 9, 99, 100, 639)}}, 640); e != api.OK || !slices.Equal(l, []api.Run{{To: 639}}) {
		t.Error("the longest run", l, e)
	}
}

// TestRunsOnce has lines that share runs: in one stave, in two that cross, and in one that is named twice.
func TestRunsOnce(t *testing.T) {
	thick := plain(2, 12, 1)
	for x := range 2 {
		thick.Pix[5*2+x] = 0
	}
	s := api.Stave{Lines: flat(2, 0, 2, 4, 6, 8)}
	other := api.Stave{Lines: flat(2, 3, 4, 5, 6, 11)}
	want := []api.Run{{At: 0, To: 4}, {At: 0, From: 6, To: 11}, {At: 1, To: 4}, {At: 1, From: 6, To: 11}}
	for _, l := range [][]api.Stave{{s}, {s, s}, {s, other}, {other, s, other}} {
		if runs, e := stave.Runs(thick, l, 6); e != api.OK || !slices.Equal(runs, want) {
			t.Errorf("Runs of %d staves: %v, %d", len(l), runs, e)
		}
	}
	if runs, e := stave.Runs(thick, nil, 6); e != api.OK || len(runs) != 0 {
		t.Error("Runs without staves", runs, e)
	}
	if runs, e := stave.Runs(plain(2, 12, 0), []api.Stave{s}, 6); e != api.OK || len(runs) != 0 {
		t.Error("Runs of paper", runs, e)
	}
}

func TestRunsByDefinition(t *testing.T) {
	r := rand.New(rand.NewSource(7))
	for range 200 {
		g := scattered(r, 1+r.Intn(12), 5+r.Intn(20), r.Intn(11))
		var staves []api.Stave
		for range r.Intn(4) {
			staves = append(staves, randomStave(r, g.W, g.H))
		}
		most := r.Intn(7)
		if l, e := stave.Runs(g, staves, most); e != api.OK || !slices.Equal(l, runsOf(g, staves, most)) {
			t.Errorf("Runs of %v in %q with most %d: %v, %d", staves, show(g), most, l, e)
		}
	}
}

func TestRemove(t *testing.T) {
	g := crossed()
	out := must(t)(stave.Remove(g, []api.Stave{wide()}, 2))
	want := plain(10, 34, 0)
	for y := 8; y < 20; y++ {
		want.Pix[y*10+7] = 1
	}
	want.Pix[10+1] = 1
	if !same(out, want) {
		t.Error("Remove with most 2", show(out))
	}
	for _, most := range []int{0, -1, math.MinInt} {
		if out := must(t)(stave.Remove(g, []api.Stave{wide()}, most)); !same(out, g) {
			t.Errorf("Remove with most %d: %q", most, show(out))
		}
	}
	if out := must(t)(stave.Remove(g, nil, 640)); !same(out, g) {
		t.Error("Remove without staves", show(out))
	}
	for _, g := range []api.Ink{{}, {W: 640}, {H: 640}} {
		if out, e := stave.Remove(g, nil, 1); e != api.OK || !same(out, g) {
			t.Error("Remove from an image without pixels", out, e)
		}
	}
}

// TestRemoveOnlyRuns checks that nothing but the runs is changed, and that long runs stay.
func TestRemoveOnlyRuns(t *testing.T) {
	r := rand.New(rand.NewSource(8))
	for range 200 {
		g := scattered(r, 1+r.Intn(20), 5+r.Intn(30), r.Intn(11))
		staves := []api.Stave{randomStave(r, g.W, g.H), randomStave(r, g.W, g.H)}
		most := r.Intn(6)
		out := must(t)(stave.Remove(g, staves, most))
		gone := plain(g.W, g.H, 0)
		for _, run := range runsOf(g, staves, most) {
			for y := run.From; y <= run.To; y++ {
				gone.Pix[y*g.W+run.At] = 1
			}
		}
		if want := must(t)(image.Less(g, gone)); !same(out, want) {
			t.Errorf("Remove of %v from %q with most %d: %q", staves, show(g), most, show(out))
		}
		before, _ := image.Columns(g)
		after, _ := image.Columns(out)
		for _, run := range before {
			if run.To-run.From+1 > most && !slices.Contains(after, run) {
				t.Errorf("Remove from %q with most %d: the run %v is gone", show(g), most, run)
			}
		}
	}
}

func TestRemoveErrors(t *testing.T) {
	g := plain(10, 34, 1)
	for _, s := range misfits() {
		for _, l := range [][]api.Stave{{s}, {wide(), s}, {s, wide()}} {
			if runs, e := stave.Runs(g, l, 34); e != api.ErrStave || len(runs) != 0 {
				t.Errorf("Runs of %v: %d", l, e)
			}
			if out, e := stave.Remove(g, l, 34); e != api.ErrStave || !zero(out) {
				t.Errorf("Remove of %v: %d", l, e)
			}
		}
	}
}

func TestRemoveMemory(t *testing.T) {
	g := crossed()
	s := wide()
	before := bytes.Clone(g.Pix)
	for _, most := range []int{0, 1, 34} {
		out := must(t)(stave.Remove(g, []api.Stave{s}, most))
		for i := range out.Pix {
			out.Pix[i] = 7
		}
	}
	if !bytes.Equal(g.Pix, before) || !sameLines(s.Lines, wide().Lines) {
		t.Error("an argument has changed")
	}
}

// gaugeOf is Gauge by its definition: each column is looked at as a text.
func gaugeOf(g api.Ink) (black, white int) {
	count := map[byte]map[int]int{0: {}, 1: {}}
	for x := range g.W {
		var column []byte
		for y := range g.H {
			column = append(column, g.Pix[y*g.W+x])
		}
		for from := 0; from < g.H; {
			to := from
			for to < g.H && column[to] == column[from] {
				to++
			}
			if column[from] == 1 || from > 0 && to < g.H {
				count[column[from]][to-from]++
			}
			from = to
		}
	}
	common := func(m map[int]int) (best int) {
		for n := g.H; n > 0; n-- {
			if m[n] > 0 && m[n] >= m[best] {
				best = n
			}
		}
		return best
	}
	return common(count[1]), common(count[0])
}

func TestGauge(t *testing.T) {
	for _, x := range []struct {
		g            api.Ink
		black, white int
	}{
		{api.Ink{}, 0, 0},
		{api.Ink{W: 9}, 0, 0},
		{api.Ink{H: 9}, 0, 0},
		{plain(9, 9, 0), 0, 0},
		{plain(9, 9, 1), 9, 0},
		{plain(640, 640, 1), 640, 0},
		{ruled(10, 34, 4, 10, 16, 22, 28), 1, 5},
		{crossed(), 1, 5},
		{ruled(3, 640, 0, 639), 1, 638},
		{read(t, "3 3\n#.#\n.##\n#..\n"), 1, 1},
		{read(t, "2 5\n##\n#.\n.#\n##\n##\n"), 2, 1},
		{read(t, "1 9\n#\n#\n.\n.\n.\n#\n.\n.\n#\n"), 1, 2},
		{read(t, "2 4\n.#\n##\n..\n##\n"), 1, 1},
		{read(t, "1 4\n.\n#\n#\n.\n"), 2, 0},
		{read(t, "1 3\n#\n.\n.\n"), 1, 0},
		{read(t, "1 3\n.\n.\n#\n"), 1, 0},
	} {
		if black, white, e := stave.Gauge(x.g); e != api.OK || black != x.black || white != x.white {
			t.Errorf("Gauge of %q: %d, %d, %d, want %d, %d", show(x.g), black, white, e, x.black, x.white)
		}
	}
}

func TestGaugeByDefinition(t *testing.T) {
	r := rand.New(rand.NewSource(9))
	for range 400 {
		g := scattered(r, r.Intn(8), r.Intn(20), r.Intn(11))
		black, white, e := stave.Gauge(g)
		if b, w := gaugeOf(g); e != api.OK || black != b || white != w {
			t.Errorf("Gauge of %q: %d, %d, %d, want %d, %d", show(g), black, white, e, b, w)
		}
	}
}
