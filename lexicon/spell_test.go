package lexicon_test

import (
	"math"
	"math/rand"
	"slices"
	"strings"
	"testing"

	"custos/api"
	"custos/lexicon"
)

func TestNearExample(t *testing.T) {
	x := begin(t, "laus", "gloria", "la")
	l := seen("l0i2", "a0", "u1_0", "s3_0")
	for most, want := range map[int][]lexicon.Guess{
		math.MinInt: nil, -1: nil, 0: nil,
		1: {{Word: "la", Cost: 0}},
		2: {{Word: "la", Cost: 0}, {Word: "laus", Cost: 4}},
		3: {{Word: "la", Cost: 0}, {Word: "laus", Cost: 4}}, math.MaxInt: {{Word: "la", Cost: 0}, {Word: "laus", Cost: 4}},
	} {
		if got, e := x.Near(l, most); e != api.OK || !slices.Equal(got, want) {
			t.Errorf("the first %d: %v, error %d", most, got, e)
		}
	}
}

func TestNearRandom(t *testing.T) {
	r := rand.New(rand.NewSource(7))
	for i := range 3000 {
		words, l, most := vocabulary(r), blurred(r, 6), r.Intn(9)-1
		x, before := begin(t, words...), copied([]line{l})
		want := nearBy(words, l, most)
		if got, e := x.Near(l, most); e != api.OK || !slices.Equal(got, want) || !same(before, []line{l}) {
			t.Fatalf("case %d: %q at %v: %v, error %d, want %v", i, words, l, got, e, want)
		}
		all, _ := x.Near(l, 100)
		for _, w := range words {
			if cost, e := lexicon.Cost(l, w); e == api.OK && cost < all[0].Cost {
				t.Fatalf("case %d: %q is nearer than %v", i, w, all[0])
			}
		}
	}
}

func TestNearAll(t *testing.T) {
	r := rand.New(rand.NewSource(8))
	words := append(wides(r)[:1999], strings.Repeat("q", 23))
	x := begin(t, words...)
	for n := 22; n <= 24; n++ {
		l := make(line, n)
		for i := range l {
			for value := range 28 {
				if r.Intn(2) == 0 {
					l[i] = append(l[i], api.Option{Value: value, Miss: r.Intn(1000001)})
				}
			}
		}
		for _, most := range []int{5, 2000} {
			if got, e := x.Near(l, most); e != api.OK || !slices.Equal(got, nearBy(words, l, most)) {
				t.Errorf("%d signs: %d words, error %d", n, len(got), e)
			}
		}
	}
}

func TestNearErrors(t *testing.T) {
	for _, x := range []*lexicon.Lexicon{begin(t), begin(t, "la")} {
		for _, w := range wrongLines() {
			for _, most := range []int{math.MinInt, 0, 1, math.MaxInt} {
				if got, e := x.Near(w.l, most); e != w.errno || !zero(got) {
					t.Errorf("%s: %v, error %d, want %d", w.name, got, e, w.errno)
				}
			}
		}
	}
}

func TestSpellExamples(t *testing.T) {
	x := begin(t, "gloria", "la", "laus")
	glo, ri := seen("g0", "l0", "o0", "-0"), seen("r0", "l0i1", "-0")
	for i, c := range []struct {
		lines []line
		want  []string
		cost  int
	}{
		{nil, nil, 0},
		{[]line{nil, {}, nil}, []string{"", "", ""}, 0},
		{[]line{glo, ri, seen("a0"), seen("l0", "a0")}, []string{"glo-", "ri-", "a", "la"}, 1},
		{[]line{glo, seen("_0", "_0"), ri, nil, seen("a0", "_0"), seen("l0", "a0", "_2")}, []string{"glo-", "", "ri-", "", "a", "la"}, 3},
		// There is no room for the hyphen.
		{[]line{seen("l0"), seen("a0")}, []string{"", ""}, 2000000},
		{[]line{seen("l0_9", "a0_9", "u0_9"), seen("s0_9")}, []string{"la", ""}, 18},
		{[]line{seen("l0_9", "a0_9", "u0_9", "-0_9"), seen("s0_9")}, []string{"lau-", "s"}, 0},
		// A hyphen that is seen is not read, since the word ends; and one is read that is not seen.
		{[]line{seen("l0_9", "a0_9", "-0_1")}, []string{"la"}, 1},
		{[]line{seen("l0_9", "a0_9", "-3_0"), seen("u0_9", "s0_9")}, []string{"la-", "us"}, 3},
		// A word may end with the line; a longer one is not seen.
		{[]line{seen("l0", "a0"), seen("l0", "a0", "u0", "s0")}, []string{"la", "laus"}, 0},
	} {
		got, cost, e := x.Spell(c.lines)
		if e != api.OK || cost != c.cost || !slices.Equal(got, c.want) {
			t.Errorf("case %d: %q, %d, error %d, want %q, %d", i, got, cost, e, c.want, c.cost)
		}
	}
}

// TestSpellTies has readings of equal cost: the texts are compared one by one.
func TestSpellTies(t *testing.T) {
	any3 := seen("a0b0_0-0", "a0b0_0-0", "a0b0_0-0")
	of := func(first string, second ...string) line { return append(seen(first), seen(second...)...) }
	for i, c := range []struct {
		words string
		lines []line
		want  []string
	}{
		{"a b ab", []line{any3}, []string{""}},
		{"a b ab", []line{of("a0b0", "_0a0b0-0", "_0")}, []string{"a"}},
		{"b ba bab", []line{of("b0", "_0a0-0", "_0b0"), of("a0b0_0", "b0_0")}, []string{"b", ""}},
		{"ba bab", []line{of("b0", "_0a0-0", "_0b0"), of("a0_1", "b0_0")}, []string{"b-", "a"}},
		{"bb bab", []line{of("b0", "_0-0b0"), of("a0b0", "b0_0")}, []string{"b-", "ab"}},
		{"bab bb", []line{of("b0", "a0-0b0", "_0-0"), of("a0b0", "b0_0", "_0")}, []string{"b-", "ab"}},
		{"aab ab", []line{seen("a0_0", "-0_0"), seen("a0_0", "-0_0"), seen("b0")}, []string{"", "a-", "b"}},
		{"aab ab b", []line{seen("a0_0", "-0_0"), seen("a0_0", "-0_0"), seen("b0")}, []string{"", "", "b"}},
		{"a b", []line{seen("a1b1"), seen("a0b0")}, []string{"a", "a"}},
	} {
		words := strings.Fields(c.words)
		got, cost, e := begin(t, words...).Spell(c.lines)
		want, least := spellBy(words, c.lines)
		if e != api.OK || !slices.Equal(got, c.want) || !slices.Equal(want, c.want) || cost != least {
			t.Errorf("case %d: %q, %d, error %d, want %q or %q, %d", i, got, cost, e, c.want, want, least)
		}
	}
}

func TestSpellRandom(t *testing.T) {
	r := rand.New(rand.NewSource(9))
	read, joined, skipped := 0, 0, 0
	for i := range 1500 {
		words := vocabulary(r)
		lines := make([]line, r.Intn(4))
		for j := range lines {
			lines[j] = blurred(r, 3)
		}
		before := copied(lines)
		got, cost, e := begin(t, words...).Spell(lines)
		want, least := spellBy(words, lines)
		if e != api.OK || cost != least || !slices.Equal(got, want) || !same(lines, before) {
			t.Fatalf("case %d: %q at %v: %q, %d, error %d, want %q, %d", i, words, lines, got, cost, e, want, least)
		}
		all := strings.Join(got, " ")
		if strings.Trim(all, " ") != "" {
			read++
		}
		if strings.Contains(all, "- ") {
			joined++
		}
		if strings.Contains(all, "-  ") {
			skipped++
		}
	}
	if read < 300 || joined < 50 || skipped < 3 {
		t.Errorf("%d cases with letters, %d with hyphens, %d with an empty text behind one", read, joined, skipped)
	}
}

// TestSpellWithoutWords can only spell empty texts.
func TestSpellWithoutWords(t *testing.T) {
	r := rand.New(rand.NewSource(10))
	for range 200 {
		lines, want := make([]line, r.Intn(65)), 0
		for i := range lines {
			lines[i] = blurred(r, 24)
			n, _ := costBy(lines[i], "")
			want += n
		}
		got, cost, e := begin(t).Spell(lines)
		if e != api.OK || cost != want || len(got) != len(lines) || strings.Join(got, "") != "" {
			t.Fatalf("%q, %d, error %d, want %d", got, cost, e, want)
		}
	}
}

func TestSpellErrors(t *testing.T) {
	good := sure("la")
	for _, x := range []*lexicon.Lexicon{begin(t), begin(t, "la", "laus")} {
		for _, w := range wrongLines() {
			for _, lines := range [][]line{{w.l}, {good, w.l}, {w.l, good}, append(slices.Repeat([]line{good}, 63), w.l)} {
				if got, cost, e := x.Spell(lines); e != w.errno || !zero(got) || cost != 0 {
					t.Errorf("%s: %q, %d, error %d, want %d", w.name, got, cost, e, w.errno)
				}
			}
		}
		many, wrong := make(line, 25), seen("a1a1")
		for i, c := range []struct {
			lines []line
			errno api.Errno
		}{
			{slices.Repeat([]line{good}, 64), api.OK},
			{slices.Repeat([]line{good}, 65), api.ErrMany},
			{append([]line{wrong}, slices.Repeat([]line{good}, 64)...), api.ErrMany},
			{slices.Repeat([]line{wrong}, 100000), api.ErrMany},
			{[]line{many, wrong}, api.ErrMany},
			{[]line{wrong, many}, api.ErrArg},
			{[]line{good, wrong, many}, api.ErrArg},
			{[]line{good, many, wrong}, api.ErrMany},
		} {
			got, cost, e := x.Spell(c.lines)
			if e != c.errno || e != api.OK && (!zero(got) || cost != 0) {
				t.Errorf("case %d: %q, %d, error %d, want %d", i, got, cost, e, c.errno)
			}
		}
	}
}

func TestSpelt(t *testing.T) {
	x := begin(t, "laus", "la", "gloria", strings.Repeat("z", 24))
	long := strings.Repeat("z", 24)
	for _, c := range []struct {
		texts []string
		want  bool
	}{
		{nil, true}, {[]string{""}, true}, {[]string{"", "", ""}, true},
		{[]string{"la"}, true}, {[]string{"la", "", "laus"}, true}, {[]string{"", "la", "", ""}, true},
		{[]string{"la-", "us"}, true}, {[]string{"la-", "", "", "us", ""}, true}, {[]string{"l-", "a-", "u-", "s", "l-", "a"}, true},
		{[]string{"glo-", "ri-", "a", "la"}, true},
		{[]string{long}, true}, {[]string{long[:23] + "-", "z"}, true}, {slices.Repeat([]string{"la"}, 1000), true},
		{[]string{"la-"}, false}, {[]string{"la-", ""}, false}, {[]string{"laus-"}, false}, {[]string{"laus-", ""}, false}, {[]string{"laus-", "la"}, false},
		{[]string{"la-", "la"}, false}, {[]string{"lau"}, false}, {[]string{"la", "us"}, false}, {[]string{"lau", "s"}, false}, {[]string{"la-", "u", "s"}, false},
		{[]string{"-"}, false}, {[]string{"la", "-"}, false}, {[]string{"la-", "-", "us"}, false}, {[]string{"la--", "us"}, false}, {[]string{"-la"}, false}, {[]string{"la-us"}, false}, {[]string{"glo-ri-", "a"}, false},
		{[]string{"LA"}, false}, {[]string{"la "}, false}, {[]string{" "}, false}, {[]string{"l_a"}, false}, {[]string{"\xff"}, false}, {[]string{"x"}, false}, {[]string{long + "z"}, false}, {[]string{long + "-", "z"}, false},
		{[]string{strings.Repeat("la", 50000)}, false},
	} {
		given := slices.Clone(c.texts)
		if got := x.Spelt(given); got != c.want || !slices.Equal(given, c.texts) {
			t.Errorf("Spelt(%q) = %t", c.texts, got)
		}
	}
	empty := begin(t)
	if !empty.Spelt(nil) || !empty.Spelt([]string{"", ""}) || empty.Spelt([]string{"a"}) || empty.Spelt([]string{"-"}) {
		t.Error("without words")
	}
}

func TestSpeltRandom(t *testing.T) {
	r := rand.New(rand.NewSource(11))
	yes := 0
	for range 20000 {
		words := vocabulary(r)
		var texts []string
		for range r.Intn(5) {
			some := []string{"", "-", text(r, 3, 2), text(r, 2, 2) + "-", "c", "a--", text(r, 2, 2) + "-" + text(r, 2, 2)}
			texts = append(texts, some[[]int{0, 2, 2, 2, 3, 3, 3, 2, 3, r.Intn(7)}[r.Intn(10)]])
		}
		want := speltBy(words, texts)
		if got := begin(t, words...).Spelt(texts); got != want {
			t.Fatalf("%q: Spelt(%q) = %t", words, texts, got)
		}
		if want && strings.Contains(strings.Join(texts, ""), "-") {
			yes++
		}
	}
	if yes < 100 {
		t.Errorf("%d texts with hyphens are spelt", yes)
	}
}

// divided returns syllables of words, at most so many.
func divided(r *rand.Rand, words []string, most int) []string {
	var texts []string
	for len(texts) < most-24 {
		w := words[r.Intn(len(words))]
		for len(w) > 0 {
			if r.Intn(6) == 0 {
				texts = append(texts, "")
			}
			n := 1 + r.Intn(len(w))
			if n < len(w) {
				texts = append(texts, w[:n]+"-")
			} else {
				texts = append(texts, w)
			}
			w = w[n:]
		}
	}
	return texts[:len(texts):len(texts)]
}

// TestSpellWhatIsWritten reads texts again that are seen without doubt, or with noise.
func TestSpellWhatIsWritten(t *testing.T) {
	r := rand.New(rand.NewSource(12))
	for i := range 200 {
		words := append(vocabulary(r), "gloria", "laus", "la", "kyrie", "eleison")
		x, texts := begin(t, words...), divided(r, words, 30)
		var lines, noisy []line
		cost := 0
		for _, s := range texts {
			l := sure(s)
			lines = append(lines, l)
			loud := copied([]line{l})[0]
			for j := range loud {
				other := api.Option{Value: r.Intn(28), Miss: r.Intn(9)}
				if !slices.ContainsFunc(loud[j], func(o api.Option) bool { return o.Value == other.Value }) {
					loud[j] = append(loud[j], other)
				}
				loud[j][0].Miss = r.Intn(3)
			}
			n, _ := costBy(loud, s)
			noisy, cost = append(noisy, loud), cost+n
		}
		got, zero, e := x.Spell(lines)
		if e != api.OK || zero != 0 || !slices.Equal(got, texts) || !x.Spelt(texts) {
			t.Fatalf("case %d: %q: %q, %d, error %d", i, texts, got, zero, e)
		}
		got, least, e := x.Spell(noisy)
		sum := 0
		for j, s := range got {
			n, e := lexicon.Cost(noisy[j], s)
			if e != api.OK {
				t.Fatalf("case %d: the text %q, error %d", i, s, e)
			}
			sum += n
		}
		if e != api.OK || least != sum || least > cost || !x.Spelt(got) || !speltBy(words, got) {
			t.Fatalf("case %d: %q, %d, error %d, want %d or less", i, got, least, e, cost)
		}
	}
}

// TestSpellAll has a lexicon and syllables as great as they may be, first without doubt and then without any hint.
func TestSpellAll(t *testing.T) {
	r := rand.New(rand.NewSource(13))
	words := wides(r)
	x := begin(t, words...)
	texts := divided(r, words, 64)
	lines := make([]line, 64)
	for i := range lines {
		lines[i] = make(line, 24)
		for j := range lines[i] {
			character := 0
			if i < len(texts) && j < len(texts[i]) {
				character = lexicon.Letter(texts[i][j])
			}
			for k := range 28 {
				lines[i][j] = append(lines[i][j], api.Option{Value: k, Miss: 1 + r.Intn(lexicon.Never)})
			}
			lines[i][j][character].Miss = 0
		}
	}
	got, cost, e := x.Spell(lines)
	if e != api.OK || cost != 0 || !slices.Equal(got[:len(texts)], texts) || strings.Join(got[len(texts):], "") != "" {
		t.Errorf("%q, %d, error %d, want %q", got, cost, e, texts)
	}
	got, cost, e = x.Spell(slices.Repeat([]line{make(line, 24)}, 64))
	if e != api.OK || cost != 64*24*lexicon.Never || strings.Join(got, "") != "" || len(got) != 64 {
		t.Errorf("%q, %d, error %d", got, cost, e)
	}
}
