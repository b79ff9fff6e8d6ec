package tone_test

import (
	"strconv"
	"strings"
	"testing"

	"custos/api"
	"custos/tone"
)

// title returns the name of an interval by the document's definition, or nothing.
func title(i tone.Interval) string {
	if i.Steps < 0 || i.Steps == 0 && i.Semis < 0 {
		up := tone.Interval{Steps: -i.Steps, Semis: -i.Semis}
		if up.Steps == 0 && up.Semis < 0 || title(up) == "" {
			return ""
		}
		return "-" + title(up)
	}
	if i.Steps > 69 {
		return ""
	}
	n, o := i.Steps%7, i.Steps/7
	e := i.Semis - 12*o - semitones[n]
	quality := map[int]string{0: "M", -1: "m", 1: "A", -2: "d"}[e]
	if n == 0 || n == 3 || n == 4 {
		quality = map[int]string{0: "P", 1: "A", -1: "d"}[e]
	}
	if quality == "" {
		return ""
	}
	return quality + strconv.Itoa(i.Steps+1)
}

// titled returns all intervals that have a name, by their names.
func titled() map[string]tone.Interval {
	m := map[string]tone.Interval{}
	for steps := -80; steps <= 80; steps++ {
		for semis := -150; semis <= 150; semis++ {
			i := tone.Interval{Steps: steps, Semis: semis}
			if s := title(i); s != "" {
				m[s] = i
			}
		}
	}
	return m
}

func TestTitleExamples(t *testing.T) {
	for _, x := range []struct {
		steps, semis int
		want         string
	}{
		{0, 0, "P1"}, {0, 1, "A1"}, {0, -1, "-A1"}, {1, 1, "m2"}, {1, 2, "M2"}, {1, 0, "d2"}, {1, 3, "A2"},
		{2, 4, "M3"}, {2, 3, "m3"}, {2, 2, "d3"}, {2, 5, "A3"}, {3, 5, "P4"}, {3, 6, "A4"}, {3, 4, "d4"},
		{4, 7, "P5"}, {4, 6, "d5"}, {4, 8, "A5"}, {5, 9, "M6"}, {5, 8, "m6"}, {6, 11, "M7"}, {6, 9, "d7"},
		{7, 12, "P8"}, {7, 11, "d8"}, {7, 13, "A8"}, {8, 14, "M9"}, {-1, -2, "-M2"}, {-7, -12, "-P8"}, {-7, -11, "-d8"},
		{-1, 0, "-d2"}, {69, 119, "M70"}, {69, 120, "A70"}, {69, 117, "d70"}, {-69, -119, "-M70"},
	} {
		i := tone.Interval{Steps: x.steps, Semis: x.semis}
		if s, e := tone.Title(i); s != x.want || e != api.OK {
			t.Errorf("Title(%v): %q, %d", i, s, e)
		}
		if j, e := tone.Read(x.want); j != i || e != api.OK {
			t.Errorf("Read(%q): %v, %d", x.want, j, e)
		}
	}
}

func TestTitlesOfAllIntervals(t *testing.T) {
	for steps := -75; steps <= 75; steps++ {
		for semis := -130; semis <= 130; semis++ {
			i := tone.Interval{Steps: steps, Semis: semis}
			want, wantE := title(i), api.OK
			if want == "" {
				wantE = api.ErrRange
			}
			if s, e := tone.Title(i); s != want || e != wantE {
				t.Errorf("Title(%v): %q, %d, not %q", i, s, e, want)
			}
		}
	}
	for _, n := range append([]int{-201, -200, 200, 201}, extremes...) {
		for _, i := range []tone.Interval{{Steps: n}, {Semis: n}, {Steps: n, Semis: n}, {Steps: 2, Semis: n}, {Steps: -2, Semis: n}, {Steps: n, Semis: 4}} {
			if s, e := tone.Title(i); s != "" || e != api.ErrRange {
				t.Errorf("Title(%v): %q, %d", i, s, e)
			}
		}
	}
}

func TestReadOfAllNames(t *testing.T) {
	m := titled()
	// 69 intervals upwards without the prime: 3 qualities each where they are perfect, 4 otherwise; and as many downwards; and P1, A1, -A1.
	if want := 2*(29*3+40*4) + 3; len(m) != want {
		t.Fatal(len(m), "names, not", want)
	}
	for name, i := range m {
		if j, e := tone.Read(name); j != i || e != api.OK {
			t.Errorf("Read(%q): %v, %d", name, j, e)
		}
		if s, e := tone.Title(i); s != name || e != api.OK {
			t.Errorf("Title(%v): %q, %d", i, s, e)
		}
	}
}

// TestReadOfOtherTexts tries all texts of at most four bytes of some kinds, and some others.
func TestReadOfOtherTexts(t *testing.T) {
	m := titled()
	none := func(s string) {
		t.Helper()
		if i, e := tone.Read(s); i != (tone.Interval{}) || e != api.ErrForm {
			t.Errorf("Read(%q): %v, %d", s[:min(9, len(s))], i, e)
		}
	}
	l := []string{""}
	for k := 0; k < len(l); k++ {
		s := l[k]
		if _, ok := m[s]; !ok {
			none(s)
		}
		if len(s) < 4 {
			for _, c := range "-PMmAdp013478+ ." {
				l = append(l, s+string(c))
			}
		}
	}
	for _, s := range []string{"d1", "-d1", "-P1", "--A1", "M1", "m1", "M4", "P2", "P3", "m5", "M8", "P70", "M71", "P71", "P78", "-M71", "D4", "a4", "P08", "P008", "+P8", "P+8", "P-8", "P 8", "P8 ", " P8", "P8\n", "P8.", "P0x8", "P1_5", "P18446744073709551624", "P9223372036854775807", "P-9223372036854775808", "PP8", "é8", "P\xff", "\xffP8", "M٣", "-", "--", "P" + strings.Repeat("0", 1<<16) + "8", "P" + strings.Repeat("1", 1<<16), strings.Repeat("-", 1<<16) + "P8"} {
		none(s)
	}
}

func TestTransposeExamples(t *testing.T) {
	third := tone.Interval{Steps: 2, Semis: 4}
	for _, x := range []struct {
		p    api.Pitch
		i    tone.Interval
		want api.Pitch
		e    api.Errno
	}{
		{api.Pitch{Step: 28}, third, api.Pitch{Step: 30}, api.OK},
		{api.Pitch{Step: 30}, third, api.Pitch{Step: 32, Alter: 1}, api.OK},
		{api.Pitch{Step: 34, Alter: 1}, third, api.Pitch{}, api.ErrPitch},
		{api.Pitch{Step: 28}, tone.Interval{Steps: 4, Semis: 7}, api.Pitch{Step: 32}, api.OK},
		{api.Pitch{Step: 34}, tone.Interval{Steps: -1, Semis: -2}, api.Pitch{Step: 33}, api.OK},
		{api.Pitch{Step: 0}, tone.Interval{Steps: 69, Semis: 119}, api.Pitch{Step: 69}, api.OK},
		{api.Pitch{Step: 0}, tone.Interval{Steps: 70, Semis: 120}, api.Pitch{}, api.ErrPitch},
		{api.Pitch{Step: 0}, tone.Interval{Steps: -1, Semis: -1}, api.Pitch{}, api.ErrPitch},
		{api.Pitch{Step: 28}, tone.Interval{Semis: 1}, api.Pitch{Step: 28, Alter: 1}, api.OK},
		{api.Pitch{Step: 28}, tone.Interval{Semis: 2}, api.Pitch{}, api.ErrPitch},
		{api.Pitch{Step: 28, Alter: -1}, tone.Interval{Semis: 2}, api.Pitch{Step: 28, Alter: 1}, api.OK},
		{api.Pitch{Step: 28}, tone.Interval{Steps: 1}, api.Pitch{}, api.ErrPitch},
		{api.Pitch{Step: 28}, tone.Interval{Steps: 200, Semis: 200}, api.Pitch{}, api.ErrPitch},
		{api.Pitch{Step: 28}, tone.Interval{Steps: -200, Semis: -200}, api.Pitch{}, api.ErrPitch},
		{api.Pitch{Step: 28}, tone.Interval{Steps: 201}, api.Pitch{}, api.ErrRange},
		{api.Pitch{Step: 28}, tone.Interval{Steps: -201}, api.Pitch{}, api.ErrRange},
		{api.Pitch{Step: 28}, tone.Interval{Semis: 201}, api.Pitch{}, api.ErrRange},
		{api.Pitch{Step: 28}, tone.Interval{Semis: -201}, api.Pitch{}, api.ErrRange},
		{api.Pitch{Step: 70, Alter: 5}, tone.Interval{Semis: -201}, api.Pitch{}, api.ErrRange},
		{api.Pitch{Step: 70, Alter: 5}, tone.Interval{Steps: -200, Semis: -200}, api.Pitch{}, api.ErrPitch},
		{api.Pitch{Step: 70}, tone.Interval{Steps: -1, Semis: -1}, api.Pitch{}, api.ErrPitch},
		{api.Pitch{Step: -1}, tone.Interval{Steps: 1, Semis: 1}, api.Pitch{}, api.ErrPitch},
		{api.Pitch{Step: 28, Alter: 2}, tone.Interval{Semis: -1}, api.Pitch{}, api.ErrPitch},
	} {
		if p, e := tone.Transpose(x.p, x.i); p != x.want || e != x.e {
			t.Errorf("Transpose(%v, %v): %v, %d", x.p, x.i, p, e)
		}
	}
}

// TestTransposeOfAll looks for the pitch among all pitches.
func TestTransposeOfAll(t *testing.T) {
	l := pitches()
	for _, p := range l {
		for steps := -9; steps <= 9; steps++ {
			for semis := -16; semis <= 16; semis++ {
				want, wantE := api.Pitch{}, api.ErrPitch
				for alter := -1; alter <= 1; alter++ {
					q := api.Pitch{Step: p.Step + steps, Alter: alter}
					if q.Step >= 0 && q.Step < 70 && sounds(q) == sounds(p)+semis {
						want, wantE = q, api.OK
					}
				}
				i := tone.Interval{Steps: steps, Semis: semis}
				if q, e := tone.Transpose(p, i); q != want || e != wantE {
					t.Fatalf("Transpose(%v, %v): %v, %d", p, i, q, e)
				}
			}
		}
	}
}

func TestTransposeErrors(t *testing.T) {
	for _, n := range append([]int{-201, 201}, extremes...) {
		for _, i := range []tone.Interval{{Steps: n}, {Semis: n}, {Steps: n, Semis: n}} {
			for _, p := range append(noPitches(), api.Pitch{Step: 28}) {
				if q, e := tone.Transpose(p, i); q != (api.Pitch{}) || e != api.ErrRange {
					t.Errorf("Transpose(%v, %v): %v, %d", p, i, q, e)
				}
			}
			for _, key := range append(noKeys, 0) {
				if k, e := tone.Key(key, i); k != 0 || e != api.ErrRange {
					t.Errorf("Key(%d, %v): %d, %d", key, i, k, e)
				}
			}
		}
	}
	for _, p := range noPitches() {
		if q, e := tone.Transpose(p, tone.Interval{}); q != (api.Pitch{}) || e != api.ErrPitch {
			t.Errorf("Transpose(%v): %v, %d", p, q, e)
		}
	}
}

func TestKeyOfAll(t *testing.T) {
	for _, x := range []struct{ key, steps, semis, want int }{{0, 2, 4, 4}, {0, 4, 7, 1}, {0, -1, -2, -2}, {1, 1, 2, 3}, {-4, 7, 12, -4}, {0, 1, 1, -5}} {
		k, e := tone.Key(x.key, tone.Interval{Steps: x.steps, Semis: x.semis})
		if x.want == -5 && (k != 0 || e != api.ErrKey) || x.want != -5 && (k != x.want || e != api.OK) {
			t.Errorf("Key(%v): %d, %d", x, k, e)
		}
	}
	for key := -8; key <= 8; key++ {
		for steps := -200; steps <= 200; steps += 1 + steps*steps/900 {
			for semis := -200; semis <= 200; semis++ {
				want, wantE := key+7*semis-12*steps, api.OK
				if key < -4 || key > 4 || want < -4 || want > 4 {
					want, wantE = 0, api.ErrKey
				}
				i := tone.Interval{Steps: steps, Semis: semis}
				if k, e := tone.Key(key, i); k != want || e != wantE {
					t.Fatalf("Key(%d, %v): %d, %d", key, i, k, e)
				}
			}
		}
	}
	for _, key := range noKeys {
		for _, i := range []tone.Interval{{}, {Steps: 7, Semis: 12}, {Steps: 4, Semis: 7}, {Steps: -4, Semis: -7}} {
			if k, e := tone.Key(key, i); k != 0 || e != api.ErrKey {
				t.Errorf("Key(%d, %v): %d, %d", key, i, k, e)
			}
		}
	}
}

func TestBetween(t *testing.T) {
	for _, a := range pitches() {
		for _, b := range pitches() {
			want := tone.Interval{Steps: b.Step - a.Step, Semis: sounds(b) - sounds(a)}
			if i, e := tone.Between(a, b); i != want || e != api.OK {
				t.Fatalf("Between(%v, %v): %v, %d", a, b, i, e)
			}
		}
	}
	for _, p := range noPitches() {
		for _, q := range []api.Pitch{p, {}, {Step: 28, Alter: 1}} {
			i, e := tone.Between(p, q)
			j, f := tone.Between(q, p)
			if i != (tone.Interval{}) || j != i || e != api.ErrPitch || f != e {
				t.Errorf("Between(%v, %v): %v, %d; %v, %d", p, q, i, e, j, f)
			}
		}
	}
}

// TestThereAndBack checks what follows of transpositions.
func TestThereAndBack(t *testing.T) {
	for _, p := range pitches() {
		for _, q := range pitches() {
			i, _ := tone.Between(p, q)
			if r, e := tone.Transpose(p, i); r != q || e != api.OK {
				t.Fatalf("from %v to %v: %v, %d", p, q, r, e)
			}
			if r, e := tone.Transpose(q, tone.Interval{Steps: -i.Steps, Semis: -i.Semis}); r != p || e != api.OK {
				t.Fatalf("back from %v to %v: %v, %d", q, p, r, e)
			}
		}
	}
	fourth := tone.Interval{Steps: 3, Semis: 5}
	for _, p := range pitches() {
		for _, q := range pitches() {
			up, e := tone.Transpose(p, fourth)
			up2, e2 := tone.Transpose(q, fourth)
			if e != api.OK || e2 != api.OK {
				continue
			}
			i, _ := tone.Between(p, q)
			j, _ := tone.Between(up, up2)
			a, _ := tone.Staff(api.Alto, p)
			b, _ := tone.Staff(api.Alto, up)
			if i != j || b-a != 3 {
				t.Fatalf("%v and %v a fourth higher", p, q)
			}
		}
	}
}

// TestKeysAndPitches transposes the pitches of each key by all intervals that lead from it to a key.
func TestKeysAndPitches(t *testing.T) {
	looked := 0
	for key := -4; key <= 4; key++ {
		for _, i := range titled() {
			other, e := tone.Key(key, i)
			if e != api.OK {
				continue
			}
			for step := range 70 {
				if step+i.Steps < 0 || step+i.Steps > 69 {
					continue
				}
				alter, _ := tone.Alter(key, step)
				p, e := tone.Transpose(api.Pitch{Step: step, Alter: alter}, i)
				want, _ := tone.Alter(other, step+i.Steps)
				if p != (api.Pitch{Step: step + i.Steps, Alter: want}) || e != api.OK {
					t.Errorf("%v of the key %d, transposed by %v: %v, %d", step, key, i, p, e)
				}
				looked++
			}
		}
	}
	if looked < 10000 {
		t.Error("only", looked, "pitches")
	}
}
