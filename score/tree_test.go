package score_test

import (
	"math/rand"
	"regexp"
	"slices"
	"strings"
	"testing"

	"custos/api"
	"custos/score"
)

// token matches a word or a bracket of a tree.
var token = regexp.MustCompile(`[()]|[^() \n]+`)

// wordForms has what matches the words of a tree: the kind of a number that is a value is v, that of another one n.
var wordForms = []struct {
	kind string
	form *regexp.Regexp
}{
	{"(", regexp.MustCompile(`^\($`)},
	{")", regexp.MustCompile(`^\)$`)},
	{"S", regexp.MustCompile(`^score$`)},
	{"K", regexp.MustCompile(`^key$`)},
	{"M", regexp.MustCompile(`^meter$`)},
	{"B", regexp.MustCompile(`^bars$`)},
	{"P", regexp.MustCompile(`^part$`)},
	{"E", regexp.MustCompile(`^measure$`)},
	{"V", regexp.MustCompile(`^voice$`)},
	{"N", regexp.MustCompile(`^note$`)},
	{"R", regexp.MustCompile(`^rest$`)},
	{"v", regexp.MustCompile(`^(?:1|2|4|8|16)$`)},
	{"n", regexp.MustCompile(`^` + numberForm + `$`)},
	{"a", regexp.MustCompile(`^(?:single|double|final|open|close)\*?$`)},
	{"c", regexp.MustCompile(`^(?:treble|alto|bass)$`)},
	{"d", regexp.MustCompile(`^dot$`)},
	{"t", regexp.MustCompile(`^triple$`)},
	{"b", regexp.MustCompile(`^(?:begin|in|end)$`)},
	{"x", regexp.MustCompile(`^text:(?:[a-z]{1,4}|[a-z]{1,3}-)$`)},
	{"p", regexp.MustCompile(`^[a-g][#b]?[0-9]~?$`)},
	{"?", regexp.MustCompile(``)},
}

// treeForm matches the kinds of the words and brackets of a whole tree.
var treeForm = regexp.MustCompile(`^\(S\(K[vn]\)\(M[vn][vn]\)\(Ba+\)(?:\(Pc(?:\(E(?:\(V(?:\((?:Nvd?t?b?x?p+|Rvd?t?b?x?)\))+\))+\))+\))+\)$`)

// kindOfWord returns the kind of a word or a bracket.
func kindOfWord(w string) string {
	for _, x := range wordForms {
		if x.form.MatchString(w) {
			return x.kind
		}
	}
	return "?"
}

// firstBadByte returns the index that Decode tells with ErrForm, or -1.
func firstBadByte(text string) int {
	kinds := ""
	places := token.FindAllStringIndex(text, -1)
	for _, at := range places {
		kinds += kindOfWord(text[at[0]:at[1]])
	}
	if treeForm.MatchString(kinds) {
		return -1
	}
	places = append(places, []int{len(text)})
	return places[firstBad(kinds, treeForm, "(S(Kn)(Mnn)(Ba)(Pc(E(V(Nvp)))))", "(S(Kn)(Mnn)(Ba)(Pc(E(V(Rv)))))")][0]
}

// badTree checks that Decode tells an error.
func badTree(t *testing.T, text string, index int, e api.Errno) {
	t.Helper()
	s, i, errno := score.Decode(text)
	if shown(s) != shown(api.Score{}) || i != index || errno != e {
		t.Fatalf("Decode(%q): %s, %d, %d, not %d, %d", text[:min(len(text), 400)], shown(s), i, errno, index, e)
	}
}

// decoded returns the score of a tree.
func decoded(t *testing.T, text string) api.Score {
	t.Helper()
	s, i, e := score.Decode(text)
	if e != api.OK || i != 0 {
		t.Fatalf("Decode(%q): byte %d, error %d", text, i, e)
	}
	return s
}

// loose returns a tree with other blanks.
func loose(r *rand.Rand, tree string) string {
	blanks := func(least int) string {
		b := ""
		for range least + r.Intn(3)*r.Intn(2) {
			b += []string{" ", "\n"}[r.Intn(2)]
		}
		return b
	}
	var b strings.Builder
	b.WriteString(blanks(0))
	before := ")"
	for _, w := range token.FindAllString(tree, -1) {
		if strings.ContainsAny(before, "()") || strings.ContainsAny(w, "()") {
			b.WriteString(blanks(0))
		} else {
			b.WriteString(blanks(1))
		}
		b.WriteString(w)
		before = w
	}
	return b.String() + blanks(0)
}

func TestEncodeAndDecode(t *testing.T) {
	r := rand.New(rand.NewSource(76))
	for range 400 {
		s := tune(r)
		before := shown(s)
		tree, e := score.Encode(s)
		if tree != treeOf(s) || e != api.OK || shown(s) != before {
			t.Fatalf("Encode of %s: %q, %d", before, tree, e)
		}
		if back := decoded(t, tree); shown(back) != before || !score.Same(back, s) {
			t.Fatalf("Decode(%q): %s", tree, shown(back))
		}
		other := loose(r, tree)
		if back := decoded(t, other); shown(back) != before {
			t.Fatalf("Decode(%q): %s", other, shown(back))
		}
		if firstBadByte(other) >= 0 {
			t.Fatalf("byte %d of %q is bad", firstBadByte(other), other)
		}
	}
	s, want := wrong(t)
	if tree, e := score.Encode(s); tree != "" || e != want {
		t.Errorf("Encode of a score that is not right: %q, %d", tree, e)
	}
}

func TestTreeExamples(t *testing.T) {
	s := parsed(t, example)
	if tree, e := score.Encode(s); tree != exampleTree || e != api.OK {
		t.Errorf("Encode: %q, %d", tree, e)
	}
	bare := "(score(key -1)(meter 3 4)(bars single final)(part treble(measure(voice(note 4 text:la- f4)(note 8 begin a4 c5~)(note 8 end c5)(rest 4)))(measure(voice(note 2 dot bb4)))))"
	for _, tree := range []string{exampleTree, bare, "\n \n" + bare + " \n\n", strings.ReplaceAll(exampleTree, " ", "\n"), strings.ReplaceAll(exampleTree, " ", "  \n ")} {
		if !score.Same(decoded(t, tree), s) {
			t.Errorf("Decode(%q): %s", tree, shown(decoded(t, tree)))
		}
	}
	all := piece(t, "close*", "c4+e#4~/16.t(_a c4+e#4~/16.t= c4+e#4/16.t)_abc- r/8.t | r/4 r/16")
	want := "(score (key 0) (meter 2 4) (bars close*) (part treble (measure (voice (note 16 dot triple begin text:a c4 e#4~) (note 16 dot triple in c4 e#4~) (note 16 dot triple end text:abc- c4 e#4) (rest 8 dot triple)) (voice (rest 4) (rest 16)))))"
	if tree, e := score.Encode(all); tree != want || e != api.OK {
		t.Errorf("Encode: %q, %d", tree, e)
	}
}

// TestDecodeOfBadWords puts words in the place of others. The bad one is marked with a @.
func TestDecodeOfBadWords(t *testing.T) {
	for old, l := range map[string][]string{
		"(score":                  {"@score", "(@Score", "(@scores", "(@(score", "@)", "(@)", "(@key", "@\t(score", "@\r\n(score", "@\xff"},
		"(key -1)":                {"(key@)", "(key @-0)", "(key @+1)", "(key @01)", "(key @1234567890)", "(key @-1234567890)", "(key -1@(", "(key -1 @1)", "(@keys -1)", "@key -1)", "(key @one)", "(key @1*)", "@)", "(key @-1\t)", "(key @--1)", "(key @-)", "(@meter 3 4)"},
		"(meter 3 4)":             {"(meter@)", "(meter 3@)", "(meter 3 4 @4)", "(meter @3/4)", "(meter 3 @04)", "(meter@(3) 4)", "(meter 3 @1234567890)", "@)", "(@bars single)"},
		"(bars single final)":     {"(bars@)", "(bars single @last)", "(bars single @*)", "(bars @single**)", "(bars single final @1)", "(bars single@(final))", "(@part treble", "@)", "(bars single final) @)"},
		"(part treble":            {"(part@)", "(part@(", "(part @tenor", "(part @1", "(part treble @bass", "(part treble @treble", "@part treble", "(@Part", "(@measure", "(part treble@)"},
		"(measure (voice (note 4": {"(measure@)", "(measure @x", "(measure (@measure", "(measure (@note 4", "(measure (voice@)", "(measure (voice @note", "(measure (voice (@chord", "(measure (voice (note@)", "(measure (voice (note @3", "(measure (voice (note @04", "(measure (voice (note @dot", "(measure (voice (@)", "(measure (voice (@(", "(measure @1 (voice"},
		"text:la- f4":             {"text:la-@)", "f4 @text:la-", "@text: f4", "@text:- f4", "@text:abcde f4", "@text:a-b f4", "text:la- @text:la- f4", "@text f4", "@Text:la- f4", "text:la- @dot f4", "text:la- @4 f4", "text:la- @h4", "text:la- @f10", "text:la- @f4~~", "text:la- @f", "text:la- f4 @x", "text:la- f4@(", "@4 f4", "@triples f4", "triple @triple f4", "triple @dot f4", "dot @dot f4", "begin @end f4", "begin @begin f4", "begin @dot f4", "in @triple f4", "text:la- @begin f4", "dot triple begin text:a@)", "@f4+a4", "@f4/4", "@~ f4", "f4 @~"},
		"(rest 4)":                {"(rest@)", "(rest 4 @c4)", "(rest 4 dot triple begin text:a @c4)", "(rest @32)", "(rest 4 @4)", "(rest 4@(", "(@rests 4)", "(@r 4)", "(rest 4) @4", "@rest", "(rest 4 @~)"},
		"(note 2 dot bb4)))))":    {"(note 2 dot bb4)))) @score", "(note 2 dot bb4)))))@)", "(note 2 dot bb4))))) @(", "(note 2 dot bb4))))) \n @x", "(note 2 dot bb4))))@x)"},
	} {
		for _, marked := range l {
			text := strings.Replace(exampleTree, old, marked, 1)
			at := strings.Index(text, "@")
			text = text[:at] + text[at+1:]
			if firstBadByte(text) != at {
				t.Errorf("by definition, byte %d of %q is bad, not %d", firstBadByte(text), text, at)
			}
			badTree(t, text, at, api.ErrForm)
		}
	}
}

// TestDecodeOfTreesThatEnd has all beginnings of the example.
func TestDecodeOfTreesThatEnd(t *testing.T) {
	for n := range len(exampleTree) {
		text := exampleTree[:n]
		badTree(t, text, firstBadByte(text), api.ErrForm)
		// Nothing that ends before a bracket or a blank is a part of a word.
		if n == 0 || strings.Contains("() ", exampleTree[n:n+1]) || strings.Contains("() ", exampleTree[n-1:n]) {
			badTree(t, text, n, api.ErrForm)
			badTree(t, text+" \n ", n+3, api.ErrForm)
		}
	}
	badTree(t, " \n", 2, api.ErrForm)
}

// TestDecodeOfScoresThatAreNotRight spoils scores in ways that trees can tell.
func TestDecodeOfScoresThatAreNotRight(t *testing.T) {
	r := rand.New(rand.NewSource(77))
	for range 3000 {
		s := tune(r)
		spoilAnything(r, &s)
		if !expressible(s) {
			continue
		}
		tree := loose(r, treeOf(s))
		if _, e := judge(s); e != api.OK {
			badTree(t, tree, len(tree), e)
		} else if back := decoded(t, tree); shown(back) != shown(s) {
			t.Fatalf("Decode(%q): %s", tree, shown(back))
		}
	}
	for _, x := range []struct {
		old, new string
		e        api.Errno
	}{
		{"(key -1)", "(key 5)", api.ErrKey},
		{"(key -1)", "(key -999999999)", api.ErrKey},
		{"(meter 3 4)", "(meter 0 999999999)", api.ErrMeter},
		{"(meter 3 4)", "(meter -3 4)", api.ErrMeter},
		{"single final", "single", api.ErrParts},
		{"a4 c5~", "c5~ a4", api.ErrChord},
		{"a4 c5~", "a4 a#4 c5~", api.ErrChord},
		{"a4 c5~", "c0 d0 e0 f0 g0 a0 b0 c1 c5~", api.ErrChord},
		{"begin a4", "in a4", api.ErrBeam},
		{"(rest 4)", "(rest 4 end)", api.ErrBeam},
		{"end c5", "end d5", api.ErrTie},
		{"(rest 4)", "(rest 4 text:a)", api.ErrText},
		{"dot bb4", "bb4", api.ErrSum},
		{"(voice (note 2 dot bb4))", strings.Repeat("(voice (note 2 dot bb4))", 3), api.ErrVoices},
		{"(rest 4)", strings.Repeat("(rest 4)", 48), api.ErrVoices},
	} {
		tree := strings.Replace(exampleTree, x.old, x.new, 1)
		badTree(t, tree, len(tree), x.e)
		badTree(t, tree+"\n \n", len(tree)+3, x.e)
	}
	end := strings.Index(exampleTree, "(part")
	tree := exampleTree[:end] + strings.Repeat(strings.TrimSuffix(exampleTree[end:], ")"), 4) + ")"
	badTree(t, tree, len(tree), api.ErrParts)
}

// decodeMutant checks Decode for any text by the definition of trees.
func decodeMutant(t *testing.T, text string) {
	t.Helper()
	if i := firstBadByte(text); i >= 0 {
		badTree(t, text, i, api.ErrForm)
		return
	}
	s, i, e := score.Decode(text)
	if e == api.OK && (i != 0 || !slices.Equal(token.FindAllString(text, -1), token.FindAllString(treeOf(s), -1))) || e != api.OK && (e == api.ErrForm || e == api.ErrMany || i != len(text) || shown(s) != shown(api.Score{})) {
		t.Fatalf("Decode(%q): %s, %d, %d", text, shown(s), i, e)
	}
}

func TestDecodeOfMutants(t *testing.T) {
	r := rand.New(rand.NewSource(78))
	words := strings.Fields("( ) ( ) ( ) score key meter bars part measure voice note rest 4 16 0 3 -1 treble single close* dot triple begin in end text:a text: c4 b#9~ x")
	for range 1500 {
		s := tune(r)
		s.Parts = s.Parts[:1]
		tree := treeOf(s)
		decodeMutant(t, mutant(r, tree, " \n()0123456789abcdefghijklmnopqrstuvwxyz-*~:#\t\xff"))
		l := token.FindAllString(tree, -1)
		for range 1 + r.Intn(2) {
			i, j := r.Intn(len(l)), r.Intn(len(l))
			switch r.Intn(4) {
			case 0:
				l = slices.Insert(l, i, words[r.Intn(len(words))])
			case 1:
				l[i] = words[r.Intn(len(words))]
			case 2:
				l[i], l[j] = l[j], l[i]
			default:
				l = slices.Delete(l, i, i+1)
			}
		}
		decodeMutant(t, loose(r, strings.Join(l, " ")))
	}
}

// TestTreesAndTexts goes from texts to trees and back.
func TestTreesAndTexts(t *testing.T) {
	r := rand.New(rand.NewSource(79))
	for range 100 {
		text := textOf(tune(r))
		tree, e := score.Encode(parsed(t, text))
		if e != api.OK {
			t.Fatal("Encode", e)
		}
		if back, e := score.Format(decoded(t, tree)); back != text || e != api.OK {
			t.Fatalf("%q becomes %q, %d", text, back, e)
		}
	}
}

func TestDecodeLimits(t *testing.T) {
	pad := func(n int) string { return strings.Repeat(" ", n-len(exampleTree)) }
	for _, text := range []string{exampleTree + pad(api.MaxText), pad(api.MaxText) + exampleTree} {
		if !score.Same(decoded(t, text), parsed(t, example)) {
			t.Error("the longest text is read as another score")
		}
		badTree(t, " "+text, 0, api.ErrMany)
	}
	badTree(t, strings.Repeat("(", api.MaxText+1), 0, api.ErrMany)
	badTree(t, strings.Repeat("(", api.MaxText), 1, api.ErrForm)
	badTree(t, strings.Repeat(")", api.MaxText), 0, api.ErrForm)
	badTree(t, strings.Repeat(" ", api.MaxText), api.MaxText, api.ErrForm)
	badTree(t, strings.Repeat("x", api.MaxText), 0, api.ErrForm)
	badTree(t, strings.Repeat("\xff", api.MaxText), 0, api.ErrForm)
	begin := "(score (key 0) (meter 2 4) (bars"
	bars := begin + strings.Repeat(" open", 26000)
	badTree(t, bars, len(bars), api.ErrForm)
	bars += ") (part alto (measure (voice (rest 2)))))"
	badTree(t, bars, len(bars), api.ErrParts)
	events := begin + " open) (part alto (measure (voice" + strings.Repeat("(rest 2)", 16000) + "))))"
	badTree(t, events, len(events), api.ErrVoices)
	names := begin + " open) (part alto (measure (voice (note 2" + strings.Repeat(" c4", 40000) + ")))))"
	badTree(t, names, len(names), api.ErrChord)
	flag := begin + " open) (part alto (measure (voice (note 2 "
	badTree(t, flag+"text:"+strings.Repeat("a", 100000), len(flag), api.ErrForm)
	s := long(t, api.MaxText)
	tree, e := score.Encode(s)
	if tree != treeOf(s) || e != api.OK || len(tree) <= api.MaxText {
		t.Error("Encode of a score with a long tree", len(tree), e)
	}
	badTree(t, tree, 0, api.ErrMany)
}
