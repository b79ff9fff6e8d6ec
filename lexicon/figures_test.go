package lexicon_test

import (
	"slices"
	"strings"
	"testing"

	"custos/api"
	"custos/lexicon"
)

// stack returns a stack of Numbers and Alters, one after the other.
func stack(l ...int) []lexicon.Figure {
	var out []lexicon.Figure
	for i := 0; i+1 < len(l); i += 2 {
		out = append(out, lexicon.Figure{Number: l[i], Alter: l[i+1]})
	}
	return out
}

// wrongStacks returns stacks that are not right.
func wrongStacks() [][]lexicon.Figure {
	l := [][]lexicon.Figure{
		stack(1, 0), stack(10, 0), stack(0, 0), stack(5, -2), stack(5, 3),
		stack(6, 0, 6, 0), stack(4, 0, 6, 0), stack(9, 0, 5, 0, 5, 1), stack(9, 0, 3, 0, 4, 0), stack(9, 0, 7, 0, 5, 0, 3, 3),
		stack(9, 0, 8, 0, 7, 0, 6, 0, 5, 0), stack(9, 0, 8, 0, 7, 0, 6, 0, 5, 0, 4, 0, 3, 0, 2, 0), slices.Repeat(stack(5, 0), 100000), make([]lexicon.Figure, 5),
	}
	for _, x := range extremes {
		l = append(l, stack(x, 0), stack(5, x), stack(7, 0, x, 0), stack(7, 0, 5, x))
	}
	return l
}

func TestFigureExamples(t *testing.T) {
	for s, full := range map[string]string{
		"": "5 3", "6": "6 3", "7": "7 5 3", "6 5": "6 5 3", "4 3": "6 4 3", "2": "6 4 2", "4 2": "6 4 2", "4": "5 4", "5": "5 3", "3": "5 3", "9": "9 5 3",
		"4# 2": "6 4# 2", "6b": "6b 3", "7n": "7n 5 3", "6# 5b": "6# 5b 3", "4n 3#": "6 4n 3#", "2b": "6 4 2b", "4#": "5 4#", "5n": "5n 3", "3b": "5 3b", "9#": "9# 5 3",
		"8": "8", "6 4": "6 4", "6b 4": "6b 4", "8 7": "8 7", "9 7 5 2": "9 7 5 2", "3 2": "3 2", "6 3": "6 3",
	} {
		l, e := lexicon.Read(s)
		f, g := lexicon.Full(l)
		back, h := lexicon.Show(f)
		if e != api.OK || g != api.OK || h != api.OK || back != full {
			t.Errorf("%q: the full stack %q, errors %d, %d, %d, want %q", s, back, e, g, h, full)
		}
	}
}

// TestAllStacks has all right stacks.
func TestAllStacks(t *testing.T) {
	l := stacks()
	if len(l) != 21985 {
		t.Errorf("%d stacks", len(l))
	}
	texts := map[string]bool{}
	for _, s := range l {
		given := slices.Clone(s)
		full, e := lexicon.Full(given)
		again, g := lexicon.Full(full)
		if e != api.OK || g != api.OK || !slices.Equal(full, fullBy(s)) || !slices.Equal(again, full) {
			t.Errorf("the full stack of %v: %v, error %d, and of this %v, error %d", s, full, e, again, g)
		}
		text, e := lexicon.Show(given)
		back, g := lexicon.Read(text)
		if e != api.OK || g != api.OK || text != showBy(s) || !slices.Equal(back, s) {
			t.Errorf("the text of %v: %q, error %d, and of this %v, error %d", s, text, e, back, g)
		}
		if len(full) > 0 {
			full[0].Number = -1
		}
		if !slices.Equal(given, s) {
			t.Errorf("%v was changed to %v", s, given)
		}
		texts[text] = true
	}
	if len(texts) != len(l) {
		t.Errorf("%d texts of %d stacks", len(texts), len(l))
	}
}

func TestWrongStacks(t *testing.T) {
	for _, s := range wrongStacks() {
		if l, e := lexicon.Full(s); !zero(l) || e != api.ErrForm {
			t.Errorf("Full of %d figures: %v, error %d", len(s), l, e)
		}
		if text, e := lexicon.Show(s); text != "" || e != api.ErrForm {
			t.Errorf("Show of %d figures: %q, error %d", len(s), text, e)
		}
	}
}

// TestShortTexts has all texts of a few bytes of some: each is the text of a right stack, or of none.
func TestShortTexts(t *testing.T) {
	right := map[string][]lexicon.Figure{}
	for _, s := range stacks() {
		if text := showBy(s); len(text) <= 5 && strings.Trim(text, " 269b#n") == "" {
			right[text] = s
		}
	}
	found, texts := 0, []string{""}
	for i := 0; i < len(texts); i++ {
		l, e := lexicon.Read(texts[i])
		want, ok := right[texts[i]]
		if !slices.Equal(l, want) || (e == api.OK) != ok || !ok && e != api.ErrForm {
			t.Fatalf("Read(%q): %v, error %d", texts[i], l, e)
		}
		if ok {
			found++
		}
		if len(texts[i]) < 5 {
			for _, c := range " 1269b#n" {
				texts = append(texts, texts[i]+string(c))
			}
		}
	}
	if found != len(right) {
		t.Errorf("%d texts of %d stacks", found, len(right))
	}
}

func TestReadErrors(t *testing.T) {
	for _, s := range []string{" ", "0", "1", "10", "a", "b", "#", "6  4", "6 ", " 6", "6 4 ", "4 6", "6 6", "6x", "6b#", "6bb", "6B", "6 b", "b6", "-6", "+6", "06", "6\t4", "6\n", "6,4", "9 8 7 6 5", "9 8 7 6 ", "9 8 7 6 5 4", "9 8 7 6b 5", "6\x00", "\xff", "6\u266d", "\u0666", "5 3 1", "9 7 5 3b ", strings.Repeat("6 ", 100000), strings.Repeat("6", 100000), "6" + strings.Repeat("b", 100000)} {
		if l, e := lexicon.Read(s); !zero(l) || e != api.ErrForm {
			t.Errorf("Read of %d bytes: %v, error %d", len(s), l, e)
		}
	}
}

// TestResultsAreNew changes results and calls again.
func TestResultsAreNew(t *testing.T) {
	for range 2 {
		l, _ := lexicon.Full(nil)
		f, _ := lexicon.Read("9 7")
		if !slices.Equal(l, stack(5, 0, 3, 0)) || !slices.Equal(f, stack(9, 0, 7, 0)) {
			t.Errorf("%v, %v", l, f)
		}
		l[0].Number, f[0].Number = 4, 4
	}
}
