package lexicon_test

import (
	"math/rand"
	"slices"
	"strings"
	"testing"

	"custos/api"
	"custos/lexicon"
)

func TestCost(t *testing.T) {
	never := []api.Option{{Value: 1, Miss: lexicon.Never}, {Value: 0, Miss: 999999}}
	for i, x := range []struct {
		l    line
		text string
		want int
	}{
		{nil, "", 0},
		{seen("a1_2", "b3_5"), "ab", 4},
		{seen("a1_2", "b3_5"), "a", 6},
		{seen("a1_2", "b3_5"), "", 7},
		{seen("a1", "_4"), "", 1000004},
		{seen("", ""), "", 2000000},
		{seen("a1"), "b", 1000000},
		{seen("-1_3"), "-", 1},
		{seen("z1", "-2", "a0", "-4", "_5"), "z-a-", 12},
		{seen("-1a2", "-3"), "--", 4},
		{line{never, never}, "a", 1999999},
		{make(line, 24), strings.Repeat("-", 24), 24000000},
		{slices.Repeat(line{never}, 24), strings.Repeat("a", 24), 24000000},
	} {
		if got, e := lexicon.Cost(x.l, x.text); got != x.want || e != api.OK {
			t.Errorf("case %d: %d, error %d, want %d", i, got, e, x.want)
		}
	}
}

func TestCostRandom(t *testing.T) {
	r := rand.New(rand.NewSource(4))
	for i := range 2000 {
		l := blurred(r, 4)
		for _, text := range append(textsBy(len(l)), "-") {
			want, ok := costBy(l, text)
			got, e := lexicon.Cost(l, text)
			if ok && (got != want || e != api.OK) || !ok && (got != 0 || e != api.ErrText) {
				t.Fatalf("case %d: Cost(%v, %q) = %d, error %d, want %d", i, l, text, got, e, want)
			}
		}
	}
}

// TestCostWholeAlphabet has signs with all characters.
func TestCostWholeAlphabet(t *testing.T) {
	var options []api.Option
	for value := range 28 {
		options = append(options, api.Option{Value: value, Miss: 100 + value})
	}
	l := line{options, options}
	for c := byte('a'); c <= 'z'; c++ {
		if got, e := lexicon.Cost(l, string(c)+"-"); got != 100+int(c-'a')+1+127 || e != api.OK {
			t.Errorf("%c: %d, error %d", c, got, e)
		}
	}
}

func TestCostErrors(t *testing.T) {
	for _, x := range wrongLines() {
		before := copied([]line{x.l})
		for _, text := range []string{"", "a", "A", "aaaaaaaaaaaaaaaaaaaaaaaaaaaaaaaaaaaaa"} {
			if got, e := lexicon.Cost(x.l, text); got != 0 || e != x.errno {
				t.Errorf("%s: %d, error %d, want %d", x.name, got, e, x.errno)
			}
		}
		if !same(before, []line{x.l}) {
			t.Errorf("%s: the line has changed", x.name)
		}
	}
	for _, text := range []string{"A", "_", " ", "\x00", "\xff", "`", "{", "a.", "aaA", "\u00e4", "1", "aaaa", "----", strings.Repeat("a", 100000)} {
		if got, e := lexicon.Cost(seen("a1", "a2", "a3"), text); got != 0 || e != api.ErrText {
			t.Errorf("%q: %d, error %d", text, got, e)
		}
	}
}

func TestDistance(t *testing.T) {
	for _, x := range []struct {
		a, b string
		want int
	}{{"gloria", "goria", 1}, {"la", "laus", 2}, {"", "", 0}, {"", "abc", 3}, {"abc", "cba", 2}, {"kyrie", "kirye", 2}, {"a", "A", 1}, {"kitten", "sitting", 3}, {"\u00e4", "a", 2}, {"\x00\xff", "\xff\x00", 2}, {strings.Repeat("ab", 500), strings.Repeat("ba", 500), 2}, {strings.Repeat("a", 2000), strings.Repeat("b", 1500), 2000}} {
		if got, back := lexicon.Distance(x.a, x.b), lexicon.Distance(x.b, x.a); got != x.want || back != x.want {
			t.Errorf("Distance(%q, %q) = %d, and back %d, want %d", x.a, x.b, got, back, x.want)
		}
	}
}

func TestDistanceRandom(t *testing.T) {
	r := rand.New(rand.NewSource(5))
	for range 3000 {
		a, b := text(r, 6, 3)[1:], text(r, 6, 3)[1:]
		if got, want := lexicon.Distance(a, b), distanceBy(a, b); got != want {
			t.Fatalf("Distance(%q, %q) = %d, want %d", a, b, got, want)
		}
	}
}

func TestDistanceIsMetric(t *testing.T) {
	r := rand.New(rand.NewSource(6))
	for range 3000 {
		a, b, c := text(r, 12, 2)[1:], text(r, 12, 2)[1:], text(r, 12, 2)[1:]
		ab, bc, ac := lexicon.Distance(a, b), lexicon.Distance(b, c), lexicon.Distance(a, c)
		if ab < 0 || (ab == 0) != (a == b) || ab != lexicon.Distance(b, a) || ac > ab+bc {
			t.Fatalf("%q, %q, %q: %d, %d, %d", a, b, c, ab, bc, ac)
		}
	}
}
