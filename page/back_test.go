package page_test

import (
	"slices"
	"testing"

	"custos/api"
	"custos/cell"
	"custos/clean"
	"custos/font"
	"custos/page"
	"custos/score"
	"custos/stave"
)

// TestBareCells removes the staff lines of pages, and looks at what is left in the slots.
func TestBareCells(t *testing.T) {
	for _, s := range fitting(13, 150) {
		k, _ := page.Draw(s)
		l, _ := page.Cells(s)
		staves, e := page.Staves(k.H/108, (k.W-4)/24)
		if e != api.OK {
			t.Fatalf("Staves: error %d", e)
		}
		bare, e := stave.Remove(k, staves, 1)
		if e != api.OK {
			t.Fatalf("Remove: error %d", e)
		}
		for i, system := range l {
			for j, staff := range system {
				for n, c := range staff {
					want, _ := cell.Bare(c)
					got := font.Window(bare, api.Rect{X: 4 + 24*n, Y: 108 * (i*len(system) + j), W: 24, H: 108})
					if !sameInk(got, want) {
						t.Fatalf("system %d, staff %d, slot %d:\n%s\nwant\n%s", i, j, n, font.Show(got), font.Show(want))
					}
				}
			}
		}
	}
}

// TestScoresBack makes scores of their cells: so there is no other one that has them.
func TestScoresBack(t *testing.T) {
	for _, s := range fitting(14, 1500) {
		l, e := page.Cells(s)
		if e != api.OK {
			t.Fatalf("Cells: error %d", e)
		}
		if back := scoreBy(l); !score.Same(back, s) {
			t.Fatalf("%+v\nwant\n%+v", back, s)
		}
	}
}

// TestOtherColumns looks at the columns of pages that are not those of slots.
func TestOtherColumns(t *testing.T) {
	for _, s := range fitting(15, 100) {
		k, _ := page.Draw(s)
		l, _ := page.Cells(s)
		for y := range k.H {
			system := l[y/108/len(s.Parts)]
			line := slices.Contains(staffLines, y%108)
			for x := range k.W {
				if x == 1 || x >= 4 && x < 4+24*len(system[0]) {
					continue
				}
				if has(k, x, y) != line {
					t.Fatalf("column %d, row %d", x, y)
				}
			}
		}
	}
}

// TestDirtyPages cleans pages with specks, a skew and any levels.
func TestDirtyPages(t *testing.T) {
	for i, s := range fitting(16, 14) {
		k, _ := page.Draw(s)
		var specks []api.Point
		for n := range 40 {
			p := api.Point{X: n * 7919 % k.W, Y: n * 104729 % k.H}
			if _, e := page.Blot(k, append(specks, p)); e == api.OK {
				specks = append(specks, p)
			}
		}
		if len(specks) == 0 {
			t.Fatal("no specks")
		}
		dirty, _ := page.Blot(k, specks)
		skew := i%7 - 3
		skewed, e := clean.Skew(dirty, skew)
		if e != api.OK {
			t.Fatalf("Skew: error %d", e)
		}
		grey, e := page.Shade(skewed, []byte{3, 60, 0, 17, 255, byte(i)})
		if e != api.OK {
			t.Fatalf("Shade: error %d", e)
		}
		if got, recipe, e := clean.Clean(grey); e != api.OK || recipe.Skew != skew || !sameInk(got, k) {
			t.Errorf("error %d, recipe %v, skew %d", e, recipe, skew)
		}
	}
}
