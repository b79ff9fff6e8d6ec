package image_test

import (
	"math"
	"testing"

	"custos/api"
	"custos/image"
)

func TestThreshold(t *testing.T) {
	g := api.Grey{W: 3, H: 2, Pix: []byte{0, 1, 127, 128, 254, 255}}
	for level, want := range map[int]string{0: "3 2\n...\n...\n", 1: "3 2\n#..\n...\n", 2: "3 2\n##.\n...\n", 127: "3 2\n##.\n...\n", 128: "3 2\n###\n...\n", 255: "3 2\n###\n##.\n", 256: "3 2\n###\n###\n"} {
		if out, e := image.Threshold(g, level); e != api.OK || show(out) != want {
			t.Errorf("Threshold by %d: %q, %d", level, show(out), e)
		}
	}
	for _, level := range []int{-1, 257, math.MinInt, math.MaxInt} {
		if x := ofInk(image.Threshold(g, level)); x.e != api.ErrArg || !x.empty {
			t.Errorf("Threshold by %d: %v", level, x)
		}
	}
	if out, e := image.Threshold(api.Grey{W: 2}, 9); e != api.OK || !same(out, api.Ink{W: 2}) {
		t.Error("Threshold without pixels", out, e)
	}
}

func TestLevels(t *testing.T) {
	l, e := image.Levels(api.Grey{W: 3, H: 2, Pix: []byte{0, 255, 7, 255, 0, 255}})
	if e != api.OK || len(l) != 256 {
		t.Fatal("Levels", len(l), e)
	}
	for level, n := range l {
		want := map[int]int{0: 2, 7: 1, 255: 3}[level]
		if n != want {
			t.Errorf("level %d: %d pixels, want %d", level, n, want)
		}
	}
	if l, e := image.Levels(api.Grey{}); e != api.OK || len(l) != 256 {
		t.Error("Levels without pixels", l, e)
	}
}
