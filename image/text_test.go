package image_test

import (
	"strings"
	"testing"

	"custos/api"
	"custos/image"
)

func TestFormat(t *testing.T) {
	for _, x := range []struct {
		g    api.Ink
		want string
	}{
		{api.Ink{}, "0 0\n"},
		{api.Ink{W: 3}, "3 0\n"},
		{api.Ink{H: 2}, "0 2\n\n\n"},
		{api.Ink{W: 3, H: 2, Pix: []byte{1, 0, 1, 0, 1, 0}}, "3 2\n#.#\n.#.\n"},
		{filled(11, 1), "11 1\n###########\n"},
	} {
		if s, e := image.Format(x.g); e != api.OK || s != x.want {
			t.Errorf("Format(%v): %q, %d", x.g, s, e)
		}
	}
}

func TestParseErrors(t *testing.T) {
	for _, x := range []struct {
		text string
		i    int
		e    api.Errno
	}{
		{"", 0, api.ErrForm},
		{"\n", 0, api.ErrForm},
		{"1 1", 0, api.ErrForm},
		{"1\n#\n", 0, api.ErrForm},
		{" 1 1\n#\n", 0, api.ErrForm},
		{"1 1 \n#\n", 0, api.ErrForm},
		{"1 1 1\n#\n", 0, api.ErrForm},
		{"1  1\n#\n", 0, api.ErrForm},
		{"1\t1\n#\n", 0, api.ErrForm},
		{"1 1\r\n#\n", 0, api.ErrForm},
		{"1 01\n#\n", 0, api.ErrForm},
		{"00 0\n", 0, api.ErrForm},
		{"+1 1\n#\n", 0, api.ErrForm},
		{"-1 1\n#\n", 0, api.ErrForm},
		{"1 x\n#\n", 0, api.ErrForm},
		{"1_0 1\n#\n", 0, api.ErrForm},
		{"x 1\n", 0, api.ErrForm},
		{"1 \n", 0, api.ErrForm},
		{"999 999999999\n", 0, api.ErrSize},
		{"1000000000 1\n", 0, api.ErrForm},
		{"1 1000000000\n", 0, api.ErrForm},
		{"641 1000000000\n", 0, api.ErrForm},
		{"641 0\n", 0, api.ErrSize},
		{"0 641\n", 0, api.ErrSize},
		{"641 1\nx\n", 0, api.ErrSize},
		{"641 01\n", 0, api.ErrForm},
		{"2 1\n", 1, api.ErrForm},
		{"2 1\n#\n", 1, api.ErrForm},
		{"2 1\n###\n", 1, api.ErrForm},
		{"2 1\n##", 1, api.ErrForm},
		{"2 1\n#1\n", 1, api.ErrForm},
		{"2 1\n#\x00\n", 1, api.ErrForm},
		{"2 1\n##\r\n", 1, api.ErrForm},
		{"2 2\n##\n", 2, api.ErrForm},
		{"2 2\n##\n\n", 2, api.ErrForm},
		{"2 2\n#?\n?\n", 1, api.ErrForm},
		{"2 1\n##\n##\n", 2, api.ErrForm},
		{"2 1\n##\n#", 2, api.ErrForm},
		{"2 1\n##\n\n", 2, api.ErrForm},
		{"0 0\n\n", 1, api.ErrForm},
		{"0 2\n\n", 2, api.ErrForm},
		{"0 1\n#\n", 1, api.ErrForm},
	} {
		if g, i, e := image.Parse(x.text); i != x.i || e != x.e || !zero(g) {
			t.Errorf("Parse(%q): %v, %d, %d, want %d, %d", x.text, g, i, e, x.i, x.e)
		}
	}
}

func TestParse(t *testing.T) {
	g, i, e := image.Parse("3 2\n#.#\n.#.\n")
	if e != api.OK || i != 0 || !same(g, api.Ink{W: 3, H: 2, Pix: []byte{1, 0, 1, 0, 1, 0}}) {
		t.Error("Parse", g, i, e)
	}
	great := "640 640\n" + strings.Repeat(strings.Repeat("#", 640)+"\n", 640)
	if g, i, e := image.Parse(great); e != api.OK || i != 0 || !same(g, filled(640, 640)) {
		t.Error("Parse of the greatest image", i, e)
	}
}

func TestParseAndFormatAreInverse(t *testing.T) {
	for _, g := range append(scattered(100, 12), api.Ink{W: 640}, api.Ink{H: 640}) {
		back, i, e := image.Parse(show(g))
		if e != api.OK || i != 0 || !same(back, g) || show(back) != show(g) {
			t.Errorf("Parse(%q): %q, %d, %d", show(g), show(back), i, e)
		}
	}
}
