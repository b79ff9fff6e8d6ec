package vote_test

import (
	"math"
	"math/rand"
	"slices"
	"testing"

	"custos/api"
	"custos/score"
	"custos/vote"
)

func TestAlign(t *testing.T) {
	for i, c := range []struct {
		a, b  []string
		pairs []vote.Pair
		cost  int
		proof [][]int
	}{
		{[]string{"c4/2."}, []string{"c4/2."}, []vote.Pair{{A: 0, B: 0}}, 0, [][]int{{0, 5}, {5, 0}}},
		{[]string{"c4/2."}, []string{"r/2."}, []vote.Pair{{A: 0, B: 0}}, 1, [][]int{{0, 4}, {5, 1}}},
		{
			[]string{"c4/2.", "d4/2.", "e4/2."}, []string{"c4/2.", "e4/2."},
			[]vote.Pair{{A: 0, B: 0}, {A: 1, B: -1}, {A: 2, B: 1}}, 5, [][]int{{0, 5, 10}, {5, 0, 5}, {10, 5, 2}, {15, 10, 5}},
		},
		{
			[]string{"c4/2.", "e4/2."}, []string{"c4/2.", "d4/2.", "e4/2."},
			[]vote.Pair{{A: 0, B: 0}, {A: -1, B: 1}, {A: 1, B: 2}}, 5, [][]int{{0, 5, 10, 15}, {5, 0, 5, 10}, {10, 5, 2, 5}},
		},
		// Of columns that are equal the last ones are kept.
		{
			[]string{"c4/2.", "c4/2.", "c4/2."}, []string{"c4/2."},
			[]vote.Pair{{A: 0, B: -1}, {A: 1, B: -1}, {A: 2, B: 0}}, 10, [][]int{{0, 5}, {5, 0}, {10, 5}, {15, 10}},
		},
		{
			[]string{"c4/2."}, []string{"c4/2.", "c4/2."},
			[]vote.Pair{{A: -1, B: 0}, {A: 0, B: 1}}, 5, [][]int{{0, 5, 10}, {5, 0, 5}},
		},
	} {
		x, e := vote.Align(single(t, c.a...), single(t, c.b...))
		if want := (vote.Alignment{Pairs: c.pairs, Cost: c.cost, Proof: c.proof}); e != api.OK || shown(x) != shown(want) {
			t.Errorf("case %d: %+v, error %d, want %+v", i, x, e, want)
		}
	}
}

// TestAlignPrefers has alignments of equal cost.
func TestAlignPrefers(t *testing.T) {
	far, other, near := "c4+e4+g4+b4+d5+f5+a5+c6/2.", "d4+f4+a4+c5+e5+g5+b5+d6/2.", "d4+f4+a4+c5/2."
	for i, c := range []struct {
		a, b []string
		want string
	}{
		// One of them stays: the other one is left out at the end, rather than put in there.
		{[]string{far, other}, []string{other, far}, "[{A:-1 B:0} {A:0 B:1} {A:1 B:-1}]"},
		// To keep both pairs costs as much.
		{[]string{"c4+e4+g4+b4/2.", near}, []string{near, "c4+e4+g4+b4/2."}, "[{A:0 B:0} {A:1 B:1}]"},
	} {
		a, b := single(t, c.a...), single(t, c.b...)
		x, e := vote.Align(a, b)
		if want := alignBy(a, b); e != api.OK || shown(x) != shown(want) || shown(x.Pairs) != c.want {
			t.Errorf("case %d: %+v, error %d, want %s or %+v", i, x, e, c.want, want)
		}
	}
}

// TestAlignKeeps has no columns beside each other of which one is left out and one is put in: to keep them as a pair is cheaper.
func TestAlignKeeps(t *testing.T) {
	r := rand.New(rand.NewSource(21))
	for range 2000 {
		l := editions(t, r, 2, 9)
		x, _ := vote.Align(l[0], l[1])
		for i := 1; i < len(x.Pairs); i++ {
			if p, q := x.Pairs[i-1], x.Pairs[i]; p.A < 0 && q.B < 0 || p.B < 0 && q.A < 0 {
				t.Fatalf("%+v", x.Pairs)
			}
		}
	}
}

func TestAlignRandom(t *testing.T) {
	r := rand.New(rand.NewSource(22))
	gaps, choices := 0, 0
	for range 600 {
		l := editions(t, r, 2, 4)
		if len(l[0].Bars)+len(l[1].Bars) > 9 {
			continue
		}
		before := shown(l)
		x, e := vote.Align(l[0], l[1])
		want := alignBy(l[0], l[1])
		if e != api.OK || shown(x) != shown(want) {
			t.Fatalf("%s: %+v, error %d, want %+v", before, x, e, want)
		}
		if e := vote.Verify(l[0], l[1], x); e != api.OK {
			t.Fatalf("%s: Verify of %+v: error %d", before, x, e)
		}
		if !apartRows(x.Proof) || shown(l) != before {
			t.Fatalf("%+v shares memory, or %s was changed", x, before)
		}
		if len(x.Pairs) > max(len(l[0].Bars), len(l[1].Bars)) {
			gaps++
		}
		c, n := costsBy(l[0], l[1]), 0
		for _, w := range ways(len(l[0].Bars), len(l[1].Bars)) {
			if c.of(w) == x.Cost {
				n++
			}
		}
		if n > 1 {
			choices++
		}
	}
	if gaps < 10 || choices < 50 {
		t.Errorf("%d alignments with columns left out and put in, %d of several", gaps, choices)
	}
}

// TestAlignIsMetric has editions of more measures than all alignments could be tried of.
func TestAlignIsMetric(t *testing.T) {
	r := rand.New(rand.NewSource(23))
	for range 300 {
		l := editions(t, r, 3, 12)
		var n [3][3]int
		for i, a := range l {
			for j, b := range l {
				x, e := vote.Align(a, b)
				if e != api.OK || vote.Verify(a, b, x) != api.OK || (x.Cost == 0) != score.Same(a, b) {
					t.Fatalf("%+v, error %d", x, e)
				}
				n[i][j] = x.Cost
			}
		}
		if n[0][1] != n[1][0] || n[0][1] > n[0][2]+n[2][1] {
			t.Fatalf("%v: no metric", n)
		}
	}
}

// TestAlignLong has as many measures as a score may have.
func TestAlignLong(t *testing.T) {
	r := rand.New(rand.NewSource(24))
	var l []string
	for range api.MaxBars {
		l = append(l, column(r, 3, 99))
	}
	a := edition(t, l...)
	l[5], l[60] = column(r, 3, 99), column(r, 3, 99)
	b := edition(t, append(l[:30:30], l[33:]...)...)
	x, e := vote.Align(a, b)
	if e != api.OK || vote.Verify(a, b, x) != api.OK || len(x.Proof) != 65 || len(x.Proof[64]) != 62 || len(x.Pairs) != 64 {
		t.Errorf("%+v, error %d", x.Pairs, e)
	}
}

func TestAlignErrors(t *testing.T) {
	good := single(t, "c4/2.")
	fine, _ := vote.Align(good, good)
	check := func(a, b api.Score, want api.Errno) {
		t.Helper()
		for _, x := range []vote.Alignment{fine, {}, {Pairs: fine.Pairs}} {
			if e := vote.Verify(a, b, x); e != want {
				t.Errorf("Verify: error %d, want %d", e, want)
			}
		}
		if x, e := vote.Align(a, b); e != want || x.Pairs != nil || x.Proof != nil || x.Cost != 0 {
			t.Errorf("%+v, error %d, want %d", x, e, want)
		}
	}
	others := strangers(t)
	for want, s := range wrongScores(t) {
		check(s, good, want)
		check(good, s, want)
		for second, u := range wrongScores(t) {
			check(s, u, want)
			check(u, s, second)
		}
		check(s, others[0], want)
		check(others[0], s, want)
	}
	for i, s := range others {
		check(good, s, api.ErrAlign)
		check(s, good, api.ErrAlign)
		for _, u := range others[:i] {
			check(s, u, api.ErrAlign)
		}
	}
}

// copied returns a copy of an alignment.
func copied(x vote.Alignment) vote.Alignment {
	x.Pairs = slices.Clone(x.Pairs)
	x.Proof = slices.Clone(x.Proof)
	for i := range x.Proof {
		x.Proof[i] = slices.Clone(x.Proof[i])
	}
	return x
}

func TestVerify(t *testing.T) {
	a, b := single(t, "c4/2.", "d4/2.", "e4/2."), single(t, "c4/2.", "e4/2.")
	fine, _ := vote.Align(a, b)
	for name, c := range map[string]struct {
		change func(x *vote.Alignment)
		want   api.Errno
	}{
		"nothing":          {func(x *vote.Alignment) {}, api.OK},
		"a lower number":   {func(x *vote.Alignment) { x.Proof[0][2] = 1 }, api.OK},
		"a great number":   {func(x *vote.Alignment) { x.Proof[0][2] = 11 }, api.ErrArg},
		"the first number": {func(x *vote.Alignment) { x.Proof[0][0] = -1 }, api.ErrArg},
		"all numbers one less": {func(x *vote.Alignment) {
			for _, row := range x.Proof {
				for j := range row {
					row[j]--
				}
			}
		}, api.ErrArg},
		"the first number, above": {func(x *vote.Alignment) { x.Proof[0][0] = 1 }, api.ErrArg},
		"all numbers 0":           {func(x *vote.Alignment) { x.Proof = [][]int{{0, 0, 0}, {0, 0, 0}, {0, 0, 0}, {0, 0, 0}} }, api.ErrFalse},
		"all 0 and the cost 0":    {func(x *vote.Alignment) { x.Proof, x.Cost = [][]int{{0, 0, 0}, {0, 0, 0}, {0, 0, 0}, {0, 0, 0}}, 0 }, api.ErrFalse},
		"the last number":         {func(x *vote.Alignment) { x.Proof[3][2] = 4 }, api.ErrFalse},
		"the last number, above":  {func(x *vote.Alignment) { x.Proof[3][2] = 6 }, api.ErrArg},
		"the cost":                {func(x *vote.Alignment) { x.Cost = 6 }, api.ErrFalse},
		"the cost, below":         {func(x *vote.Alignment) { x.Cost = 4 }, api.ErrFalse},
		"cost and last number":    {func(x *vote.Alignment) { x.Cost, x.Proof[3][2] = 4, 4 }, api.ErrFalse},
		"a row less":              {func(x *vote.Alignment) { x.Proof = x.Proof[:3] }, api.ErrArg},
		"a row more":              {func(x *vote.Alignment) { x.Proof = append(x.Proof, []int{20, 15, 10}) }, api.ErrArg},
		"an empty row more":       {func(x *vote.Alignment) { x.Proof = append(x.Proof, nil) }, api.ErrArg},
		"a number less":           {func(x *vote.Alignment) { x.Proof[3] = x.Proof[3][:2] }, api.ErrArg},
		"a number more":           {func(x *vote.Alignment) { x.Proof[1] = append(x.Proof[1], 5) }, api.ErrArg},
		"no numbers":              {func(x *vote.Alignment) { x.Proof = make([][]int, 4) }, api.ErrArg},
		"no proof":                {func(x *vote.Alignment) { x.Proof = nil }, api.ErrArg},
		"no pairs":                {func(x *vote.Alignment) { x.Pairs = nil }, api.ErrAlign},
		"a pair less":             {func(x *vote.Alignment) { x.Pairs = x.Pairs[:2] }, api.ErrAlign},
		"a first pair less":       {func(x *vote.Alignment) { x.Pairs = x.Pairs[1:] }, api.ErrAlign},
		"a pair more":             {func(x *vote.Alignment) { x.Pairs = append(x.Pairs, vote.Pair{A: 3, B: 2}) }, api.ErrAlign},
		"a pair twice":            {func(x *vote.Alignment) { x.Pairs = append(x.Pairs, x.Pairs[2]) }, api.ErrAlign},
		"a column more":           {func(x *vote.Alignment) { x.Pairs = append(x.Pairs, vote.Pair{A: 3, B: -1}) }, api.ErrAlign},
		"a pair of nothing":       {func(x *vote.Alignment) { x.Pairs = append(x.Pairs, vote.Pair{A: -1, B: -1}) }, api.ErrAlign},
		"nothing in between":      {func(x *vote.Alignment) { x.Pairs = slices.Insert(x.Pairs, 1, vote.Pair{A: -1, B: -1}) }, api.ErrAlign},
		"below -1":                {func(x *vote.Alignment) { x.Pairs[1].B = -2 }, api.ErrAlign},
		"another order":           {func(x *vote.Alignment) { x.Pairs[0], x.Pairs[1] = x.Pairs[1], x.Pairs[0] }, api.ErrAlign},
		"only columns of a":       {func(x *vote.Alignment) { x.Pairs = []vote.Pair{{A: 0, B: -1}, {A: 1, B: -1}, {A: 2, B: -1}} }, api.ErrAlign},
		"a dearer alignment":      {func(x *vote.Alignment) { x.Pairs = []vote.Pair{{A: 0, B: 0}, {A: 1, B: 1}, {A: 2, B: -1}} }, api.ErrFalse},
		"a dearer one, its cost":  {func(x *vote.Alignment) { x.Pairs, x.Cost = []vote.Pair{{A: 0, B: 0}, {A: 1, B: 1}, {A: 2, B: -1}}, 7 }, api.ErrFalse},
		"pairs and proof":         {func(x *vote.Alignment) { x.Pairs, x.Proof, x.Cost = nil, nil, 9 }, api.ErrAlign},
		"proof and cost":          {func(x *vote.Alignment) { x.Proof, x.Cost = nil, 9 }, api.ErrArg},
	} {
		x := copied(fine)
		c.change(&x)
		before := shown(x)
		if e := vote.Verify(a, b, x); e != c.want || shown(x) != before {
			t.Errorf("%s: error %d, want %d", name, e, c.want)
		}
	}
}

// TestVerifyOtherAlignment has another alignment of the least cost.
func TestVerifyOtherAlignment(t *testing.T) {
	a, b := single(t, "c4/2.", "c4/2."), single(t, "c4/2.")
	x, _ := vote.Align(a, b)
	x.Pairs = []vote.Pair{{A: 0, B: 0}, {A: 1, B: -1}}
	if e := vote.Verify(a, b, x); e != api.OK {
		t.Errorf("error %d", e)
	}
	x.Pairs = []vote.Pair{{A: 0, B: -1}, {A: 1, B: -1}, {A: -1, B: 0}}
	if e := vote.Verify(a, b, x); e != api.ErrFalse {
		t.Errorf("error %d for a dearer one", e)
	}
}

// TestVerifyExtremes has numbers that cannot be added.
func TestVerifyExtremes(t *testing.T) {
	a, b := single(t, "c4/2.", "d4/2.", "e4/2."), single(t, "c4/2.", "e4/2.")
	fine, _ := vote.Align(a, b)
	for i, row := range fine.Proof {
		for j := range row {
			for _, n := range extremes {
				x := copied(fine)
				x.Proof[i][j] = n
				// If such a number is not too great itself, it makes those behind it too great.
				want := api.ErrArg
				if i == 3 && j == 2 && n < 0 {
					want = api.ErrFalse
				}
				if e := vote.Verify(a, b, x); e != want {
					t.Errorf("number %d of row %d is %d: error %d, want %d", j, i, n, e, want)
				}
			}
		}
	}
	for _, n := range extremes {
		x := copied(fine)
		x.Cost = n
		if e := vote.Verify(a, b, x); e != api.ErrFalse {
			t.Errorf("the cost %d: error %d", n, e)
		}
		for i := range x.Pairs {
			for _, p := range []vote.Pair{{A: n, B: x.Pairs[i].B}, {A: x.Pairs[i].A, B: n}, {A: n, B: n}, {A: n, B: -1}, {A: -1, B: n}} {
				y := copied(fine)
				y.Pairs[i] = p
				if e := vote.Verify(a, b, y); e != api.ErrAlign {
					t.Errorf("the pair %+v: error %d", p, e)
				}
			}
		}
	}
	low := copied(fine)
	for i := range low.Proof {
		for j := range low.Proof[i] {
			low.Proof[i][j] = math.MinInt
		}
	}
	low.Proof[0][0] = 0
	if e := vote.Verify(a, b, low); e != api.ErrFalse {
		t.Errorf("all numbers least: error %d", e)
	}
}

// spoilt returns an alignment with a few changes.
func spoilt(r *rand.Rand, x vote.Alignment, others [][]vote.Pair) vote.Alignment {
	x = copied(x)
	for range 1 + r.Intn(2) {
		switch r.Intn(5) {
		case 0:
			x.Pairs = slices.Clone(oneOf(r, others...))
		case 1:
			i := r.Intn(len(x.Pairs))
			x.Pairs[i] = vote.Pair{A: r.Intn(5) - 1, B: r.Intn(5) - 1}
		case 2:
			x.Cost += oneOf(r, -1, 0, 1)
		case 3:
			row := oneOf(r, x.Proof...)
			row[r.Intn(len(row))] += oneOf(r, -3, -2, -1, -1, 1)
		case 4:
			x.Proof[len(x.Proof)-1][len(x.Proof[0])-1]--
			x.Cost--
		}
	}
	return x
}

// TestVerifyRandom has alignments with a few changes, and compares with the definition.
func TestVerifyRandom(t *testing.T) {
	r := rand.New(rand.NewSource(25))
	seen := map[api.Errno]int{}
	for range 300 {
		l := editions(t, r, 2, 3)
		if len(l[0].Bars)+len(l[1].Bars) > 8 {
			continue
		}
		fine, _ := vote.Align(l[0], l[1])
		all := ways(len(l[0].Bars), len(l[1].Bars))
		for range 30 {
			x := spoilt(r, fine, all)
			want := verifyBy(l[0], l[1], x)
			if e := vote.Verify(l[0], l[1], x); e != want {
				t.Fatalf("%+v: error %d, want %d", x, e, want)
			}
			if want == api.OK && x.Cost != fine.Cost {
				t.Fatalf("%+v has not the least cost", x)
			}
			seen[want]++
		}
	}
	for _, e := range []api.Errno{api.OK, api.ErrAlign, api.ErrArg, api.ErrFalse} {
		if seen[e] < 100 {
			t.Errorf("%v", seen)
		}
	}
}
