package image_test

import (
	"bytes"
	"math"
	"testing"

	"custos/api"
	"custos/image"
)

func TestConstants(t *testing.T) {
	if image.Same != 0 || image.Right != 1 || image.Half != 2 || image.Left != 3 || image.Mirror != 4 || image.MaxBrush != 64 {
		t.Error("a constant is wrong")
	}
}

func TestCheck(t *testing.T) {
	for _, x := range []struct {
		g    api.Ink
		want api.Errno
	}{
		{api.Ink{}, api.OK},
		{api.Ink{W: 0, H: 640}, api.OK},
		{api.Ink{W: 640, H: 0, Pix: []byte{}}, api.OK},
		{filled(640, 640), api.OK},
		{api.Ink{W: 2, H: 1, Pix: []byte{0, 1}}, api.OK},
		{api.Ink{W: 641, H: 0}, api.ErrSize},
		{api.Ink{W: 0, H: 641}, api.ErrSize},
		{filled(641, 1), api.ErrSize},
		{filled(1, 641), api.ErrSize},
		{api.Ink{W: -1, H: 0}, api.ErrSize},
		{api.Ink{W: 0, H: -1}, api.ErrSize},
		{api.Ink{W: -1, H: -1, Pix: []byte{1}}, api.ErrSize},
		{api.Ink{W: math.MinInt, H: math.MinInt}, api.ErrSize},
		{api.Ink{W: 1 << 32, H: 1 << 32}, api.ErrSize},
		{api.Ink{W: 2, H: 2, Pix: []byte{1, 1, 1}}, api.ErrSize},
		{api.Ink{W: 2, H: 2, Pix: []byte{1, 1, 1, 1, 1}}, api.ErrSize},
		{api.Ink{W: 2, H: 2}, api.ErrSize},
		{api.Ink{W: 0, H: 2, Pix: []byte{0}}, api.ErrSize},
		{api.Ink{W: 2, H: 2, Pix: []byte{2, 1, 1}}, api.ErrSize},
		{api.Ink{W: 1, H: 1, Pix: []byte{2}}, api.ErrPixel},
		{api.Ink{W: 1, H: 1, Pix: []byte{255}}, api.ErrPixel},
		{api.Ink{W: 2, H: 2, Pix: []byte{0, 1, 1, 3}}, api.ErrPixel},
	} {
		if e := image.Check(x.g); e != x.want {
			t.Errorf("Check of %d by %d with %d pixels: %d, want %d", x.g.W, x.g.H, len(x.g.Pix), e, x.want)
		}
	}
}

func TestCheckGrey(t *testing.T) {
	for _, x := range []struct {
		g    api.Grey
		want api.Errno
	}{
		{api.Grey{}, api.OK},
		{api.Grey{W: 2, H: 1, Pix: []byte{0, 255}}, api.OK},
		{api.Grey{W: 640, H: 640, Pix: make([]byte, 640*640)}, api.OK},
		{api.Grey{W: 641, H: 0}, api.ErrSize},
		{api.Grey{W: 0, H: 641}, api.ErrSize},
		{api.Grey{W: -1, H: -1, Pix: []byte{0}}, api.ErrSize},
		{api.Grey{W: 2, H: 1, Pix: []byte{0}}, api.ErrSize},
		{api.Grey{W: 2, H: 1, Pix: []byte{0, 0, 0}}, api.ErrSize},
	} {
		if e := image.CheckGrey(x.g); e != x.want {
			t.Errorf("CheckGrey of %d by %d with %d pixels: %d, want %d", x.g.W, x.g.H, len(x.g.Pix), e, x.want)
		}
	}
}

func TestNew(t *testing.T) {
	for _, x := range []struct {
		w, h int
		want api.Errno
	}{{0, 0, api.OK}, {3, 2, api.OK}, {640, 640, api.OK}, {0, 5, api.OK}, {641, 0, api.ErrSize}, {0, 641, api.ErrSize}, {-1, 3, api.ErrSize}, {3, -1, api.ErrSize}, {-2, -2, api.ErrSize}, {math.MaxInt, math.MaxInt, api.ErrSize}} {
		g, e := image.New(x.w, x.h)
		if e != x.want {
			t.Errorf("New(%d, %d): error %d, want %d", x.w, x.h, e, x.want)
		}
		if e == api.OK && !same(g, api.Ink{W: x.w, H: x.h, Pix: make([]byte, x.w*x.h)}) {
			t.Errorf("New(%d, %d) is not paper", x.w, x.h)
		}
		if e != api.OK && !zero(g) {
			t.Errorf("New(%d, %d) returns an image with an error", x.w, x.h)
		}
	}
}

func TestAt(t *testing.T) {
	g := read(t, "3 2\n#.#\n.#.\n")
	for y := -2; y < 4; y++ {
		for x := -2; x < 5; x++ {
			want := x >= 0 && x < 3 && y >= 0 && y < 2 && g.Pix[y*3+x] == 1
			if image.At(g, x, y) != want {
				t.Errorf("At(%d, %d) is not %v", x, y, want)
			}
		}
	}
	for _, far := range []int{math.MinInt, math.MaxInt} {
		if image.At(g, far, 0) || image.At(g, 0, far) || image.At(g, far, far) {
			t.Error("At is true far away", far)
		}
	}
	for _, bad := range invalid() {
		if image.At(bad, 0, 0) {
			t.Error("At of an image that is not valid", bad)
		}
	}
}

func TestCount(t *testing.T) {
	for text, want := range map[string]int{"0 0\n": 0, "0 2\n\n\n": 0, "2 1\n..\n": 0, "3 2\n#.#\n.#.\n": 3, "2 2\n##\n##\n": 4} {
		if n, e := image.Count(read(t, text)); e != api.OK || n != want {
			t.Errorf("Count(%q): %d, %d", text, n, e)
		}
	}
	if n, e := image.Count(filled(640, 640)); e != api.OK || n != 640*640 {
		t.Error("Count of the greatest image", n, e)
	}
}

func TestDistance(t *testing.T) {
	a, b := read(t, "3 2\n#.#\n.#.\n"), read(t, "3 2\n##.\n.#.\n")
	if n, e := image.Distance(a, b); e != api.OK || n != 2 {
		t.Error("Distance", n, e)
	}
	if n, e := image.Distance(a, a); e != api.OK || n != 0 {
		t.Error("Distance of an image from itself", n, e)
	}
	for _, x := range []struct{ a, b string }{{"3 2\n#.#\n.#.\n", "2 3\n#.\n#.\n#.\n"}, {"0 2\n\n\n", "0 3\n\n\n\n"}, {"1 0\n", "2 0\n"}} {
		if n, e := image.Distance(read(t, x.a), read(t, x.b)); e != api.ErrSize || n != 0 {
			t.Errorf("Distance of %q and %q: %d, %d", x.a, x.b, n, e)
		}
	}
}

// invalid returns images that are not valid, though their first pixel could be ink.
func invalid() []api.Ink {
	return []api.Ink{
		{W: 641, H: 1, Pix: bytes.Repeat([]byte{1}, 641)},
		{W: 1, H: 641, Pix: bytes.Repeat([]byte{1}, 641)},
		{W: -1, H: -1, Pix: []byte{1}},
		{W: 2, H: 2, Pix: []byte{1, 1, 1}},
		{W: 2, H: 2, Pix: []byte{1, 1, 1, 1, 1}},
		{W: 1, H: 1},
		{W: 2, H: 2, Pix: []byte{1, 1, 1, 2}},
		{W: 1, H: 1, Pix: []byte{2}},
	}
}

// outcome is an error, and whether all else that a call returned is zero.
type outcome struct {
	e     api.Errno
	empty bool
}

func ofInk(g api.Ink, e api.Errno) outcome { return outcome{e, zero(g)} }

func ofInt(n int, e api.Errno) outcome { return outcome{e, n == 0} }

func ofRuns(l []api.Run, e api.Errno) outcome { return outcome{e, len(l) == 0} }

func ofComponents(l []image.Component, e api.Errno) outcome { return outcome{e, len(l) == 0} }

func ofRect(r api.Rect, e api.Errno) outcome { return outcome{e, r == api.Rect{}} }

func ofText(s string, e api.Errno) outcome { return outcome{e, s == ""} }

func ofProfile(rows, columns []int, e api.Errno) outcome {
	return outcome{e, len(rows) == 0 && len(columns) == 0}
}

// TestInvalidImages gives images that are not valid to all functions, with other arguments that are wrong, too.
func TestInvalidImages(t *testing.T) {
	calls := map[string]func(g api.Ink) outcome{
		"Count":      func(g api.Ink) outcome { return ofInt(image.Count(g)) },
		"Crop":       func(g api.Ink) outcome { return ofInk(image.Crop(g, api.Rect{X: -1})) },
		"Paste":      func(g api.Ink) outcome { return ofInk(image.Paste(g, api.Ink{W: -1}, -1, 0)) },
		"Or":         func(g api.Ink) outcome { return ofInk(image.Or(g, api.Ink{W: 3, H: 0})) },
		"And":        func(g api.Ink) outcome { return ofInk(image.And(g, api.Ink{W: 3, H: 0})) },
		"Less":       func(g api.Ink) outcome { return ofInk(image.Less(g, api.Ink{W: 3, H: 0})) },
		"Not":        func(g api.Ink) outcome { return ofInk(image.Not(g)) },
		"Turn":       func(g api.Ink) outcome { return ofInk(image.Turn(g, 8)) },
		"Distance":   func(g api.Ink) outcome { return ofInt(image.Distance(g, api.Ink{W: 3, H: 0})) },
		"Box":        func(g api.Ink) outcome { return ofRect(image.Box(g)) },
		"Rows":       func(g api.Ink) outcome { return ofRuns(image.Rows(g)) },
		"Columns":    func(g api.Ink) outcome { return ofRuns(image.Columns(g)) },
		"Components": func(g api.Ink) outcome { return ofComponents(image.Components(g, true)) },
		"Despeckle":  func(g api.Ink) outcome { return ofInk(image.Despeckle(g, 0)) },
		"Dilate":     func(g api.Ink) outcome { return ofInk(image.Dilate(g, 0, 0)) },
		"Erode":      func(g api.Ink) outcome { return ofInk(image.Erode(g, 65, 65)) },
		"Profile":    func(g api.Ink) outcome { return ofProfile(image.Profile(g)) },
		"Thin":       func(g api.Ink) outcome { return ofInk(image.Thin(g)) },
		"Format":     func(g api.Ink) outcome { return ofText(image.Format(g)) },
	}
	for name, call := range calls {
		for _, g := range invalid() {
			if x := call(g); x.e != image.Check(g) || !x.empty {
				t.Errorf("%s of %d by %d with %d pixels: %v", name, g.W, g.H, len(g.Pix), x)
			}
		}
	}
}

// TestInvalidSecond gives two wrong images: the first one decides, and the second one comes before all else.
func TestInvalidSecond(t *testing.T) {
	calls := map[string]func(a, b api.Ink) outcome{
		"Paste":    func(a, b api.Ink) outcome { return ofInk(image.Paste(a, b, 9, 9)) },
		"Or":       func(a, b api.Ink) outcome { return ofInk(image.Or(a, b)) },
		"And":      func(a, b api.Ink) outcome { return ofInk(image.And(a, b)) },
		"Less":     func(a, b api.Ink) outcome { return ofInk(image.Less(a, b)) },
		"Distance": func(a, b api.Ink) outcome { return ofInt(image.Distance(a, b)) },
	}
	size, pixel := api.Ink{W: 1}, api.Ink{W: 1, H: 1, Pix: []byte{2}}
	size.H = 1
	for name, call := range calls {
		for _, x := range []struct {
			a, b api.Ink
			want api.Errno
		}{{size, pixel, api.ErrSize}, {pixel, size, api.ErrPixel}, {filled(2, 2), pixel, api.ErrPixel}, {filled(2, 2), size, api.ErrSize}} {
			if y := call(x.a, x.b); y.e != x.want || !y.empty {
				t.Errorf("%s: %v, want error %d", name, y, x.want)
			}
		}
	}
}

// TestInvalidGrey does so with grey images.
func TestInvalidGrey(t *testing.T) {
	for _, g := range []api.Grey{{W: 641}, {H: 641}, {W: -1, H: -1, Pix: []byte{0}}, {W: 2, H: 1, Pix: []byte{0}}} {
		if x := ofInk(image.Threshold(g, 300)); x.e != api.ErrSize || !x.empty {
			t.Error("Threshold", x)
		}
		if l, e := image.Levels(g); e != api.ErrSize || len(l) != 0 {
			t.Error("Levels", l, e)
		}
	}
}

// TestFresh changes results: arguments must not change with them, nor by the call.
func TestFresh(t *testing.T) {
	other := filled(3, 3)
	calls := map[string]func(g api.Ink) (api.Ink, api.Errno){
		"Crop":      func(g api.Ink) (api.Ink, api.Errno) { return image.Crop(g, api.Rect{W: 3, H: 3}) },
		"Paste":     func(g api.Ink) (api.Ink, api.Errno) { return image.Paste(g, filled(1, 1), 1, 1) },
		"Paste of":  func(g api.Ink) (api.Ink, api.Errno) { return image.Paste(other, g, 0, 0) },
		"Or":        func(g api.Ink) (api.Ink, api.Errno) { return image.Or(g, g) },
		"And":       func(g api.Ink) (api.Ink, api.Errno) { return image.And(g, g) },
		"Less":      func(g api.Ink) (api.Ink, api.Errno) { return image.Less(g, g) },
		"Not":       image.Not,
		"Turn":      func(g api.Ink) (api.Ink, api.Errno) { return image.Turn(g, image.Same) },
		"Mirror":    func(g api.Ink) (api.Ink, api.Errno) { return image.Turn(g, image.Mirror) },
		"Despeckle": func(g api.Ink) (api.Ink, api.Errno) { return image.Despeckle(g, 0) },
		"Dilate":    func(g api.Ink) (api.Ink, api.Errno) { return image.Dilate(g, 1, 1) },
		"Erode":     func(g api.Ink) (api.Ink, api.Errno) { return image.Erode(g, 2, 2) },
		"Thin":      image.Thin,
		"Threshold": func(g api.Ink) (api.Ink, api.Errno) {
			return image.Threshold(api.Grey{W: g.W, H: g.H, Pix: g.Pix}, 1)
		},
	}
	for name, call := range calls {
		g := read(t, "3 3\n##.\n.##\n#.#\n")
		before := show(g)
		out, e := call(g)
		if e != api.OK {
			t.Errorf("%s: error %d", name, e)
		}
		for i := range out.Pix {
			out.Pix[i] = 7
		}
		if show(g) != before || !same(other, filled(3, 3)) {
			t.Errorf("%s: an argument has changed", name)
		}
	}
}
