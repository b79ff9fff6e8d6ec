package lexicon_test

import (
	"math/rand"
	"slices"
	"strings"
	"testing"

	"custos/api"
	"custos/lexicon"
)

func TestConstants(t *testing.T) {
	if lexicon.MaxWord != 24 || lexicon.MaxWords != 2000 || lexicon.MaxSigns != 24 || lexicon.MaxLines != 64 || lexicon.Never != 1000000 {
		t.Error("other limits")
	}
}

func TestNew(t *testing.T) {
	for _, words := range [][]string{nil, {"la"}, {"laus", "gloria", "la", "laus", "la"}, {"b", "ab", "a", "abc", "aba"}, {"zz", "z", "az"}, {strings.Repeat("z", 24), "a"}, slices.Repeat([]string{"a", "b"}, 1000), wides(rand.New(rand.NewSource(1)))} {
		x := begin(t, words...)
		want := wordsBy(words)
		if got := x.Words(); !slices.Equal(got, want) {
			t.Errorf("%d words: %q, want %q", len(words), got, want)
		}
		if got := x.Begin(""); !slices.Equal(got, want) {
			t.Errorf("%d words: they begin with nothing: %q", len(words), got)
		}
		for _, w := range words {
			if !x.Has(w) {
				t.Errorf("%q is missing", w)
			}
		}
	}
}

func TestNewErrors(t *testing.T) {
	type wrong struct {
		words []string
		errno api.Errno
	}
	many := slices.Repeat([]string{"a"}, 2001)
	l := []wrong{
		{many, api.ErrMany},
		{wides(rand.New(rand.NewSource(2)))[:1999], api.OK},
		{append(slices.Clone(many[1:]), ""), api.ErrMany},
		{append([]string{"A"}, many[1:]...), api.ErrMany},
		{append(slices.Clone(many[2:]), "A"), api.ErrWord},
		{slices.Repeat([]string{""}, 2000), api.ErrWord},
		{[]string{strings.Repeat("a", 100000)}, api.ErrWord},
	}
	for _, w := range []string{"", "A", "Z", "a-", "-", "-a", "a-b", "a b", " ", "a ", "_", "`", "{", "a\x00", "\xff", "\u00e4", "a\u00df", "0", strings.Repeat("a", 25)} {
		l = append(l, wrong{[]string{w}, api.ErrWord}, wrong{[]string{"a", w, "b"}, api.ErrWord}, wrong{[]string{"b", "a", w}, api.ErrWord})
	}
	for _, x := range l {
		if got, e := lexicon.New(x.words); e != x.errno || (got == nil) != (e != api.OK) {
			t.Errorf("New of %d words, the last one %q: %v, error %d, want %d", len(x.words), x.words[len(x.words)-1], got != nil, e, x.errno)
		}
	}
}

func TestHasAndBegin(t *testing.T) {
	r := rand.New(rand.NewSource(3))
	for range 300 {
		words := vocabulary(r)
		x := begin(t, words...)
		for _, prefix := range append(textsBy(5), "c", "ac", "A", "aB", " ", "a ", "\xff", "_", "aaaaaaa", strings.Repeat("a", 1000)) {
			var want []string
			for _, w := range wordsBy(words) {
				if strings.HasPrefix(w, prefix) {
					want = append(want, w)
				}
			}
			if got := x.Begin(prefix); !slices.Equal(got, want) {
				t.Fatalf("%q: Begin(%q) = %q, want %q", words, prefix, got, want)
			}
			if got := x.Has(prefix); got != slices.Contains(words, prefix) {
				t.Fatalf("%q: Has(%q) = %t", words, prefix, got)
			}
		}
	}
}

func TestBeginLongWords(t *testing.T) {
	long := strings.Repeat("z", 24)
	x := begin(t, long, long[1:], "za")
	for n := range 26 {
		var want []string
		for _, w := range []string{"za", long[1:], long} {
			if strings.HasPrefix(w, strings.Repeat("z", n)) {
				want = append(want, w)
			}
		}
		if got := x.Begin(strings.Repeat("z", n)); !slices.Equal(got, want) {
			t.Errorf("%d letters: %q, want %q", n, got, want)
		}
	}
}

func TestLetter(t *testing.T) {
	for i := range 256 {
		want := max(strings.IndexByte("_abcdefghijklmnopqrstuvwxyz-", byte(i)), 0)
		if got := lexicon.Letter(byte(i)); got != want {
			t.Errorf("Letter(%q) = %d, want %d", byte(i), got, want)
		}
	}
}

// TestNoLexicons calls the methods of nil, and of lexicons that New did not return.
func TestNoLexicons(t *testing.T) {
	taken := *begin(t, "la")
	var none lexicon.Lexicon
	for name, x := range map[string]*lexicon.Lexicon{"nil": nil, "a zero value": {}, "a variable": &none, "another variable": &taken} {
		if l := x.Words(); len(l) != 0 {
			t.Errorf("%s: Words: %q", name, l)
		}
		if x.Has("la") || x.Has("") || x.Spelt([]string{"la"}) || x.Spelt(nil) || x.Spelt([]string{""}) {
			t.Errorf("%s: it has something", name)
		}
		if l := append(x.Begin("la"), x.Begin("")...); len(l) != 0 {
			t.Errorf("%s: Begin: %q", name, l)
		}
		for _, l := range []line{nil, sure("la"), make(line, 25), seen("a1a1")} {
			if got, e := x.Near(l, 3); e != api.ErrNil || !zero(got) {
				t.Errorf("%s: Near: %v, error %d", name, got, e)
			}
			for _, n := range []int{0, 1, 65} {
				if got, cost, e := x.Spell(slices.Repeat([]line{l}, n)); e != api.ErrNil || !zero(got) || cost != 0 {
					t.Errorf("%s: Spell: %q, %d, error %d", name, got, cost, e)
				}
			}
		}
	}
}

// TestLexiconKeepsItsWords changes arguments and results.
func TestLexiconKeepsItsWords(t *testing.T) {
	words := []string{"laus", "la", "laus", "gloria"}
	given := slices.Clone(words)
	x := begin(t, given...)
	if !slices.Equal(given, words) {
		t.Errorf("New changed its argument to %q", given)
	}
	given[0], given[1] = "x", "y"
	for range 2 {
		all, some := x.Words(), x.Begin("la")
		if !slices.Equal(all, []string{"gloria", "la", "laus"}) || !slices.Equal(some, []string{"la", "laus"}) || !x.Has("laus") || x.Has("x") {
			t.Errorf("%q, %q", all, some)
		}
		all[0], some[0] = "x", "y"
		l, _ := x.Near(sure("laus"), 9)
		s, _, _ := x.Spell([]line{sure("laus")})
		if !slices.Equal(s, []string{"laus"}) || l[0].Word != "laus" {
			t.Errorf("%v, %q", l, s)
		}
		l[0].Word, s[0] = "z", "z"
	}
	other := begin(t, "x")
	if !slices.Equal(x.Words(), []string{"gloria", "la", "laus"}) || !slices.Equal(other.Words(), []string{"x"}) {
		t.Error("two lexicons are one")
	}
}
