package image_test

import (
	"math"
	"slices"
	"testing"

	"custos/api"
	"custos/image"
)

func TestBox(t *testing.T) {
	for text, want := range map[string]api.Rect{
		"0 0\n":                      {},
		"3 2\n...\n...\n":            {},
		"1 1\n#\n":                   {W: 1, H: 1},
		"3 2\n#..\n..#\n":            {W: 3, H: 2},
		"4 3\n....\n.#..\n..#.\n":    {X: 1, Y: 1, W: 2, H: 2},
		"4 3\n....\n....\n...#\n":    {X: 3, Y: 2, W: 1, H: 1},
		"5 3\n.....\n.#.#.\n.....\n": {X: 1, Y: 1, W: 3, H: 1},
	} {
		if r, e := image.Box(read(t, text)); e != api.OK || r != want {
			t.Errorf("Box(%q): %v, %d", text, r, e)
		}
	}
}

func TestRunsExamples(t *testing.T) {
	g := read(t, "4 3\n##.#\n....\n.###\n")
	if l, e := image.Rows(g); e != api.OK || !slices.Equal(l, []api.Run{{At: 0, From: 0, To: 1}, {At: 0, From: 3, To: 3}, {At: 2, From: 1, To: 3}}) {
		t.Error("Rows", l, e)
	}
	if l, e := image.Columns(g); e != api.OK || !slices.Equal(l, []api.Run{{At: 0, From: 0, To: 0}, {At: 1, From: 0, To: 0}, {At: 1, From: 2, To: 2}, {At: 2, From: 2, To: 2}, {At: 3, From: 0, To: 0}, {At: 3, From: 2, To: 2}}) {
		t.Error("Columns", l, e)
	}
	for _, g := range []api.Ink{{}, {W: 3}, {H: 3}, {W: 1, H: 1, Pix: []byte{0}}} {
		rows, e := image.Rows(g)
		columns, f := image.Columns(g)
		if e != api.OK || f != api.OK || len(rows) != 0 || len(columns) != 0 {
			t.Error("runs without ink", rows, columns, e, f)
		}
	}
}

func TestRunsGiveTheImageBack(t *testing.T) {
	for _, g := range append(scattered(100, 9), filled(640, 640), filled(1, 640)) {
		rows, _ := image.Rows(g)
		if back, e := image.FromRows(g.W, g.H, rows); e != api.OK || !same(back, g) {
			t.Errorf("FromRows of the rows of %q: %q, %d", show(g), show(back), e)
		}
		columns, _ := image.Columns(g)
		if back, e := image.FromColumns(g.W, g.H, columns); e != api.OK || !same(back, g) {
			t.Errorf("FromColumns of the columns of %q: %q, %d", show(g), show(back), e)
		}
	}
}

func TestFromRuns(t *testing.T) {
	l := []api.Run{{At: 0, From: 0, To: 1}, {At: 0, From: 3, To: 3}, {At: 1, From: 1, To: 3}}
	if g, e := image.FromRows(4, 2, l); e != api.OK || show(g) != "4 2\n##.#\n.###\n" {
		t.Error("FromRows", show(g), e)
	}
	if g, e := image.FromColumns(2, 4, l); e != api.OK || show(g) != "2 4\n#.\n##\n.#\n##\n" {
		t.Error("FromColumns", show(g), e)
	}
	if g, e := image.FromRows(2, 1, nil); e != api.OK || show(g) != "2 1\n..\n" {
		t.Error("FromRows without runs", show(g), e)
	}
	if g, e := image.FromColumns(2, 1, []api.Run{}); e != api.OK || show(g) != "2 1\n..\n" {
		t.Error("FromColumns without runs", show(g), e)
	}
}

// TestFromRunsErrors has runs of 3 lines with 5 pixels each.
func TestFromRunsErrors(t *testing.T) {
	for _, x := range []struct {
		name string
		l    []api.Run
		want api.Errno
	}{
		{"a line before", []api.Run{{At: -1, From: 0, To: 0}}, api.ErrArg},
		{"a line after", []api.Run{{At: 3, From: 0, To: 0}}, api.ErrArg},
		{"the last line", []api.Run{{At: 2, From: 0, To: 4}}, api.OK},
		{"from before", []api.Run{{At: 0, From: -1, To: 0}}, api.ErrArg},
		{"to behind", []api.Run{{At: 0, From: 0, To: 5}}, api.ErrArg},
		{"from behind", []api.Run{{At: 0, From: 5, To: 5}}, api.ErrArg},
		{"turned", []api.Run{{At: 0, From: 2, To: 1}}, api.ErrArg},
		{"touching", []api.Run{{At: 0, From: 0, To: 1}, {At: 0, From: 2, To: 3}}, api.ErrArg},
		{"overlapping", []api.Run{{At: 0, From: 0, To: 2}, {At: 0, From: 2, To: 3}}, api.ErrArg},
		{"within", []api.Run{{At: 0, From: 0, To: 4}, {At: 0, From: 1, To: 2}}, api.ErrArg},
		{"twice", []api.Run{{At: 0, From: 0, To: 0}, {At: 0, From: 0, To: 0}}, api.ErrArg},
		{"a gap", []api.Run{{At: 0, From: 0, To: 1}, {At: 0, From: 3, To: 3}}, api.OK},
		{"from decreasing", []api.Run{{At: 0, From: 3, To: 3}, {At: 0, From: 0, To: 1}}, api.ErrArg},
		{"lines decreasing", []api.Run{{At: 1, From: 0, To: 0}, {At: 0, From: 2, To: 2}}, api.ErrArg},
		{"the next line", []api.Run{{At: 0, From: 0, To: 4}, {At: 1, From: 0, To: 4}}, api.OK},
		{"far away", []api.Run{{At: math.MaxInt, From: math.MinInt, To: math.MaxInt}}, api.ErrArg},
		{"a late one", []api.Run{{At: 0, From: 0, To: 0}, {At: 1, From: 0, To: math.MaxInt}}, api.ErrArg},
	} {
		g, e := image.FromRows(5, 3, x.l)
		if e != x.want || e != api.OK && !zero(g) {
			t.Errorf("FromRows with %s: %v, %d", x.name, g, e)
		}
		g, e = image.FromColumns(3, 5, x.l)
		if e != x.want || e != api.OK && !zero(g) {
			t.Errorf("FromColumns with %s: %v, %d", x.name, g, e)
		}
	}
	bad := []api.Run{{At: -1}}
	for _, p := range []api.Point{{X: 641}, {Y: 641}, {X: -1, Y: 1}, {X: 1, Y: -1}} {
		if x := ofInk(image.FromRows(p.X, p.Y, bad)); x.e != api.ErrSize || !x.empty {
			t.Error("FromRows of wrong sides", p, x)
		}
		if x := ofInk(image.FromColumns(p.X, p.Y, bad)); x.e != api.ErrSize || !x.empty {
			t.Error("FromColumns of wrong sides", p, x)
		}
	}
}

func TestProfile(t *testing.T) {
	rows, columns, e := image.Profile(read(t, "4 3\n##.#\n....\n.###\n"))
	if e != api.OK || !slices.Equal(rows, []int{3, 0, 3}) || !slices.Equal(columns, []int{1, 2, 1, 2}) {
		t.Error("Profile", rows, columns, e)
	}
	rows, columns, e = image.Profile(api.Ink{W: 0, H: 2})
	if e != api.OK || !slices.Equal(rows, []int{0, 0}) || len(columns) != 0 {
		t.Error("Profile without columns", rows, columns, e)
	}
	rows, columns, e = image.Profile(api.Ink{W: 3, H: 0})
	if e != api.OK || len(rows) != 0 || !slices.Equal(columns, []int{0, 0, 0}) {
		t.Error("Profile without rows", rows, columns, e)
	}
}
