package vote_test

import (
	"math/rand"
	"slices"
	"strings"
	"testing"

	"custos/api"
	"custos/score"
	"custos/vote"
)

// piece is a score of four measures; lacking has no second one, altered has another third one.
func piece(t *testing.T) (whole, lacking, altered api.Score) {
	t.Helper()
	return single(t, "c4/2.", "d4/2.", "e4/2.", "f4/2."), single(t, "c4/2.", "e4/2.", "f4/2."), single(t, "c4/2.", "d4/2.", "eb4/2.", "f4/2.")
}

func TestMiddle(t *testing.T) {
	whole, lacking, altered := piece(t)
	for i, c := range []struct {
		l    []api.Score
		at   int
		sums []int
	}{
		{[]api.Score{whole}, 0, []int{0}},
		{[]api.Score{lacking, altered, whole}, 2, []int{12, 9, 7}},
		{[]api.Score{whole, lacking}, 0, []int{5, 5}},
		{[]api.Score{lacking, whole}, 0, []int{5, 5}},
		{[]api.Score{altered, whole, whole}, 1, []int{4, 2, 2}},
		{[]api.Score{altered, altered, whole, whole}, 0, []int{4, 4, 4, 4}},
		{[]api.Score{lacking, whole, altered, whole}, 1, []int{17, 7, 11, 7}},
	} {
		at, sums, e := vote.Middle(c.l)
		if e != api.OK || at != c.at || !slices.Equal(sums, c.sums) {
			t.Errorf("case %d: %d, %v, error %d, want %d, %v", i, at, sums, e, c.at, c.sums)
		}
	}
}

func TestMiddleRandom(t *testing.T) {
	r := rand.New(rand.NewSource(31))
	later := 0
	for range 150 {
		l := editions(t, r, 1+r.Intn(4), 3)
		before := shown(l)
		at, sums, e := vote.Middle(l)
		best, want := middleBy(l)
		if e != api.OK || at != best || !slices.Equal(sums, want) || shown(l) != before {
			t.Fatalf("%s: %d, %v, error %d, want %d, %v", before, at, sums, e, best, want)
		}
		if at > 0 {
			later++
		}
	}
	if later < 30 {
		t.Errorf("%d times another than the first one", later)
	}
}

// fails checks the error of Middle and Vote.
func fails(t *testing.T, l []api.Score, want api.Errno) {
	t.Helper()
	if at, sums, e := vote.Middle(l); e != want || at != 0 || sums != nil {
		t.Errorf("Middle: %d, %v, error %d, want %d", at, sums, e, want)
	}
	if s, agree, e := vote.Vote(l); e != want || !score.Same(s, api.Score{}) || agree != nil {
		t.Errorf("Vote: %+v, %v, error %d, want %d", s, agree, e, want)
	}
}

func TestVoteErrors(t *testing.T) {
	good, others := single(t, "c4/2."), strangers(t)
	for _, l := range [][]api.Score{nil, {}, slices.Repeat([]api.Score{good}, 10), make([]api.Score, 10), append([]api.Score{{}}, slices.Repeat(others, 2)...)} {
		fails(t, l, api.ErrArg)
	}
	for want, s := range wrongScores(t) {
		fails(t, []api.Score{s}, want)
		fails(t, []api.Score{good, s}, want)
		fails(t, []api.Score{others[0], good, others[1], s}, want)
		fails(t, append(slices.Repeat([]api.Score{good}, 8), s), want)
		for second, u := range wrongScores(t) {
			fails(t, []api.Score{good, s, others[0], u}, want)
			fails(t, []api.Score{u, good, s}, second)
		}
	}
	for i, s := range others {
		fails(t, []api.Score{good, s}, api.ErrAlign)
		fails(t, []api.Score{s, s, good}, api.ErrAlign)
		fails(t, []api.Score{s, good, s}, api.ErrAlign)
		fails(t, append(slices.Repeat([]api.Score{good}, 8), s), api.ErrAlign)
		fails(t, []api.Score{s, others[(i+1)%len(others)]}, api.ErrAlign)
	}
	if _, _, e := vote.Middle(slices.Repeat([]api.Score{good}, 9)); e != api.OK {
		t.Errorf("Middle of nine: error %d", e)
	}
}

// elects checks what scores vote for; texts are the columns of editions, with ; between two.
func elects(t *testing.T, name string, texts []string, want string, agree string) {
	t.Helper()
	var l []api.Score
	for _, text := range texts {
		l = append(l, edition(t, strings.Split(text, "; ")...))
	}
	s, n, e := vote.Vote(l)
	if e != api.OK || !score.Same(s, edition(t, strings.Split(want, "; ")...)) || shown(n) != agree {
		text, _ := score.Format(s)
		t.Errorf("%s: %s, %v, error %d, want %s, %s", name, text, n, e, want, agree)
	}
}

func TestVote(t *testing.T) {
	whole, lacking, altered := piece(t)
	s, agree, e := vote.Vote([]api.Score{whole, lacking, altered})
	if e != api.OK || !score.Same(s, whole) || shown(agree) != "[[3] [2] [2] [3]]" {
		t.Errorf("%+v, %v, error %d", s, agree, e)
	}
	const c, d, e4 = "single c4/2.", "single d4/2.", "single e4/2."
	three := c + "; " + d + "; " + e4
	elects(t, "half have a column", []string{three, c + "; " + e4}, c+"; "+e4, "[[2] [2]]")
	elects(t, "two of four", []string{three, three, c + "; " + e4, c + "; " + e4}, c+"; "+e4, "[[4] [4]]")
	elects(t, "three of five", []string{three, c + "; " + e4, three, c + "; " + e4, three}, three, "[[5] [3] [5]]")
	elects(t, "most lack it", []string{three, c + "; " + e4, c + "; " + e4}, c+"; "+e4, "[[3] [3]]")
	elects(t, "each pitch", []string{c, d, d}, d, "[[2]]")
	elects(t, "equally many pitches", []string{d, c, e4}, d, "[[1]]")
	elects(t, "two and two", []string{e4, d, c, c, d}, d, "[[2]]")
	elects(t, "each part", []string{"single c4/2. / c4/2.", "single d4/2. / c4/2.", "single d4/2. / d4/2."}, "single d4/2. / c4/2.", "[[2 2]]")
	elects(t, "each part of its own", []string{"single c4/2. / c4/2.", "single d4/2. / d4/2.", "single c4/2. / e4/2.", "single e4/2. / d4/2."}, "single c4/2. / d4/2.", "[[2 2]]")
	elects(t, "voices", []string{"single c4/2. | d4/2.", "single c4/2.", "single c4/2. | d4/2."}, "single c4/2. | d4/2.", "[[2]]")
}

func TestVoteAboutBars(t *testing.T) {
	elects(t, "barlines", []string{"single c4/2.", "final c4/2.", "final c4/2."}, "final c4/2.", "[[3]]")
	elects(t, "a barline of its own", []string{"single c4/2.", "final d4/2.", "final c4/2."}, "final c4/2.", "[[2]]")
	elects(t, "equally many barlines", []string{"open c4/2.", "single c4/2.", "close c4/2."}, "open c4/2.", "[[3]]")
	elects(t, "two and two barlines", []string{"open c4/2.", "single c4/2.", "close c4/2.", "close c4/2.", "single c4/2."}, "single c4/2.", "[[5]]")
	elects(t, "only the barlines of those that count", []string{"open c4/2.", "open c4/2.", "single* c4/2.", "final* c4/2.", "final* c4/2."}, "final* c4/2.", "[[3]]")
}

func TestVoteAboutFree(t *testing.T) {
	elects(t, "free", []string{"single c4/2.", "single* c4/2.", "single* c4/2."}, "single* c4/2.", "[[2]]")
	elects(t, "not free", []string{"single c4/2.", "single* c4/4", "single c4/2."}, "single c4/2.", "[[2]]")
	elects(t, "equally many, not free first", []string{"single c4/2.", "single* d4/4"}, "single c4/2.", "[[1]]")
	elects(t, "equally many, free first", []string{"single* d4/4", "single c4/2."}, "single* d4/4", "[[1]]")
	elects(t, "those that count", []string{"single c4/2.", "single c4/2.", "single* d4/2.", "single* c4/2.", "single* d4/2."}, "single* d4/2.", "[[2]]")
}

// TestVoteFree has free measures, which are voted for together.
func TestVoteFree(t *testing.T) {
	x, y, z := "single* c4/2 / c4/2", "single* c4/2 / d4/2", "single* e4/2 / d4/2"
	elects(t, "the first one", []string{x, y, z}, x, "[[2 1]]")
	elects(t, "most have all", []string{x, y, z, z}, z, "[[2 3]]")
	elects(t, "two and two", []string{x, z, y, y, z}, z, "[[2 4]]")
	elects(t, "other lengths", []string{"single* c4/4 / c4/4", "single* c4/4 / c4/4", "single* c4/2 / d4/2", "single* c4/2 / e4/2", "single* c4/2 / f4/2"}, "single* c4/4 / c4/4", "[[2 2]]")
	elects(t, "the barline of another one", []string{"single* c4/2 / c4/2", "close* c4/2 / c4/2", "close* d4/2 / e4/2"}, "close* c4/2 / c4/2", "[[2 2]]")
}

// TestVoteWithoutMajority has a middle score of columns each of which only one other score has.
func TestVoteWithoutMajority(t *testing.T) {
	middle := "single c2/2.; single d4/2.; single e6/2."
	l := []string{
		"single c2+d2+e2+f2+g2+a2+b2+c3/2. | c2+d2+e2+f2+g2+a2+b2+c3/2.",
		"single d4+e4+f4+g4+a4+b4+c5+d5/2. | d4+e4+f4+g4+a4+b4+c5+d5/2.",
		middle,
		"single f5+g5+a5+b5+c6+d6+e6+f6/2. | f5+g5+a5+b5+c6+d6+e6+f6/2.",
	}
	var scores []api.Score
	for _, text := range l {
		scores = append(scores, edition(t, strings.Split(text, "; ")...))
	}
	at, sums, _ := vote.Middle(scores)
	if at != 2 {
		t.Fatalf("the middle one is %d: %v", at, sums)
	}
	elects(t, "all stay", l, l[0]+"; "+l[1]+"; single e6/2.", "[[1] [1] [1]]")
}

// TestVoteKeeps has a key, a meter and clefs.
func TestVoteKeeps(t *testing.T) {
	text := "key -3\nmeter 6 8\nbars single final*\npart bass\nmeasure\nvoice c3/2.\nmeasure\nvoice d3/4\npart alto\nmeasure\nvoice c4/4. c4/4.\nvoice r/2.\nmeasure\nvoice r/4\n"
	a, _, e := score.Parse(text)
	b := score.Copy(a)
	b.Parts[0].Measures[0].Voices[0][0].Notes[0].Pitch.Step++
	s, agree, f := vote.Vote([]api.Score{b, a, a})
	if e != api.OK || f != api.OK || !score.Same(s, a) || shown(agree) != "[[2 3] [3 3]]" {
		t.Errorf("%+v, %v, errors %d and %d", s, agree, e, f)
	}
}

func TestVoteRandom(t *testing.T) {
	r := rand.New(rand.NewSource(32))
	all, left, stay := 0, 0, 0
	for range 400 {
		l := editions(t, r, 1+r.Intn(6), 3)
		before := shown(l)
		s, agree, e := vote.Vote(l)
		want, most := voteBy(l)
		if e != api.OK || !score.Same(s, want) || shown(agree) != shown(most) {
			t.Fatalf("%s: %+v, %v, error %d, want %+v, %v", before, s, agree, e, want, most)
		}
		if at, errno := score.Check(s); errno != api.OK {
			t.Fatalf("%s: %+v is not right at %+v: error %d", before, s, at, errno)
		}
		middle, _ := middleBy(l)
		switch {
		case score.Same(s, l[middle]):
			all++
		case len(s.Bars) < len(l[middle].Bars):
			left++
		default:
			stay++
		}
		scribbleScore(s)
		if !apartRows(agree) || shown(l) != before {
			t.Fatalf("%s: the vote shares memory, or changes something", before)
		}
	}
	if all < 20 || left < 20 || stay < 20 {
		t.Errorf("%d votes are the middle score, %d leave out columns, %d are others", all, left, stay)
	}
}

// TestVoteSharesNothing has scores whose measures are one and the same.
func TestVoteSharesNothing(t *testing.T) {
	s := single(t, "c4/2.", "c4/2.")
	s.Parts[0].Measures[1] = s.Parts[0].Measures[0]
	out, _, e := vote.Vote([]api.Score{s, s, s})
	before := shown(s)
	if e != api.OK || shown(out) != before {
		t.Fatalf("%+v, error %d", out, e)
	}
	scribble(out.Parts[0].Measures[:1:1])
	if shown(s) != before || shown(columnBy(out, 1)) != shown(columnBy(s, 1)) {
		t.Errorf("the measures share memory: %+v", out)
	}
}

// TestVoteMajority has more than half of the scores that are one and the same.
func TestVoteMajority(t *testing.T) {
	r := rand.New(rand.NewSource(33))
	for range 300 {
		n := 1 + r.Intn(9)
		others := r.Intn((n + 1) / 2)
		l := editions(t, r, 1+others, 6)
		first := l[0]
		l = append(l, slices.Repeat([]api.Score{first}, n-1-others)...)
		r.Shuffle(len(l), func(i, j int) { l[i], l[j] = l[j], l[i] })
		s, agree, e := vote.Vote(l)
		if e != api.OK || len(l) != n || !score.Same(s, first) || len(agree) != len(first.Bars) {
			t.Fatalf("%d others of %d: %+v, error %d, want %+v", others, n, s, e, first)
		}
		for _, row := range agree {
			for _, m := range row {
				if m < n-others || m > n || others == 0 && m != n || len(row) != len(first.Parts) {
					t.Fatalf("%d others of %d: %v agree", others, n, agree)
				}
			}
		}
		at, sums, _ := vote.Middle(l)
		if !score.Same(l[at], first) || sums[at] != slices.Min(sums) {
			t.Fatalf("the middle one is %d", at)
		}
	}
}

// TestVoteLong has as many scores as may vote, and as many measures as they may have.
func TestVoteLong(t *testing.T) {
	r := rand.New(rand.NewSource(34))
	var first []string
	for range api.MaxBars {
		first = append(first, column(r, 3, 99))
	}
	want := edition(t, first...)
	l := []api.Score{want}
	for i := range 8 {
		// The columns that differ are others in each score.
		some := slices.Clone(first)
		for j := i; j < len(some)-8; j += 8 {
			some[j] = column(r, 3, 99)
		}
		l = append(l, edition(t, slices.Delete(some, len(some)-1-i, len(some)-i)...))
	}
	s, agree, e := vote.Vote(l)
	if e != api.OK || !score.Same(s, want) || len(agree) != api.MaxBars {
		t.Errorf("%+v, %v, error %d", s, agree, e)
	}
}
