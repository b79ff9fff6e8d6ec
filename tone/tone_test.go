package tone_test

import (
	"testing"

	"custos/api"
	"custos/tone"
)

func TestBase(t *testing.T) {
	for c, step := range clefs {
		if base, e := tone.Base(c); base != step || e != api.OK {
			t.Errorf("Base(%d): %d, %d", c, base, e)
		}
	}
	for _, c := range noClefs {
		if base, e := tone.Base(c); base != 0 || e != api.ErrClef {
			t.Errorf("Base(%d): %d, %d", c, base, e)
		}
	}
}

func TestStaff(t *testing.T) {
	for c, base := range clefs {
		for _, p := range pitches() {
			if step, e := tone.Staff(c, p); step != p.Step-base || e != api.OK {
				t.Errorf("Staff(%d, %v): %d, %d", c, p, step, e)
			}
		}
		for _, p := range noPitches() {
			if step, e := tone.Staff(c, p); step != 0 || e != api.ErrPitch {
				t.Errorf("Staff(%d, %v): %d, %d", c, p, step, e)
			}
		}
	}
	for _, c := range noClefs {
		for _, p := range append(noPitches(), api.Pitch{Step: 28}) {
			if step, e := tone.Staff(c, p); step != 0 || e != api.ErrClef {
				t.Errorf("Staff(%d, %v): %d, %d", c, p, step, e)
			}
		}
	}
}

// TestExamples checks what the document says of the pitch c4, and of two keys.
func TestExamples(t *testing.T) {
	if step, e := tone.Staff(api.Treble, api.Pitch{Step: 28}); step != -2 || e != api.OK {
		t.Errorf("c4 in the treble clef: %d, %d", step, e)
	}
	for _, x := range []struct{ key, step, want int }{{2, 31, 1}, {2, 28, 1}, {2, 29, 0}, {-1, 34, -1}, {0, 31, 0}} {
		if n, e := tone.Alter(x.key, x.step); n != x.want || e != api.OK {
			t.Errorf("Alter(%d, %d): %d, %d", x.key, x.step, n, e)
		}
	}
}

// TestKeys says of each key what it does to the letters from C to B.
func TestKeys(t *testing.T) {
	for key, letters := range map[int][7]int{
		-4: {0, -1, -1, 0, 0, -1, -1},
		-3: {0, 0, -1, 0, 0, -1, -1},
		-2: {0, 0, -1, 0, 0, 0, -1},
		-1: {0, 0, 0, 0, 0, 0, -1},
		0:  {},
		1:  {0, 0, 0, 1, 0, 0, 0},
		2:  {1, 0, 0, 1, 0, 0, 0},
		3:  {1, 0, 0, 1, 1, 0, 0},
		4:  {1, 1, 0, 1, 1, 0, 0},
	} {
		for step := range 70 {
			if n, e := tone.Alter(key, step); n != letters[step%7] || e != api.OK {
				t.Errorf("Alter(%d, %d): %d, %d", key, step, n, e)
			}
		}
		for _, step := range noSteps {
			if n, e := tone.Alter(key, step); n != 0 || e != api.ErrPitch {
				t.Errorf("Alter(%d, %d): %d, %d", key, step, n, e)
			}
		}
	}
	for _, key := range noKeys {
		for _, step := range append(noSteps, 0, 28, 69) {
			if n, e := tone.Alter(key, step); n != 0 || e != api.ErrKey {
				t.Errorf("Alter(%d, %d): %d, %d", key, step, n, e)
			}
		}
	}
}

func TestSounding(t *testing.T) {
	for c, base := range clefs {
		for key := -4; key <= 4; key++ {
			for step := range 70 {
				for acc, alter := range []int{keyed(key, step), 1, -1, 0} {
					want := api.Pitch{Step: step, Alter: alter}
					if p, e := tone.Sounding(c, key, step-base, acc); p != want || e != api.OK {
						t.Errorf("Sounding(%d, %d, %d, %d): %v, %d", c, key, step-base, acc, p, e)
					}
				}
			}
		}
	}
}

func TestSoundingErrors(t *testing.T) {
	none := func(c api.Clef, key, step, acc int, want api.Errno) {
		t.Helper()
		if p, e := tone.Sounding(c, key, step, acc); p != (api.Pitch{}) || e != want {
			t.Errorf("Sounding(%d, %d, %d, %d): %v, %d", c, key, step, acc, p, e)
		}
	}
	for _, c := range noClefs {
		none(c, 0, 0, 0, api.ErrClef)
		none(c, 5, 100, 4, api.ErrClef)
	}
	for c, base := range clefs {
		for _, key := range noKeys {
			none(c, key, 0, 0, api.ErrKey)
			none(c, key, 100, 4, api.ErrKey)
		}
		for _, step := range append([]int{-base - 1, 70 - base}, extremes...) {
			none(c, 1, step, 0, api.ErrPitch)
			none(c, 1, step, 4, api.ErrPitch)
		}
		for _, acc := range noAccs {
			none(c, 1, -base, acc, api.ErrAcc)
			none(c, 1, 69-base, acc, api.ErrAcc)
		}
	}
}

// TestSoundingAndStaff goes from a pitch to its place on a staff, and back.
func TestSoundingAndStaff(t *testing.T) {
	accs := map[int]int{1: 1, -1: 2, 0: 3}
	for c := range clefs {
		for _, p := range pitches() {
			step, _ := tone.Staff(c, p)
			if q, e := tone.Sounding(c, 2, step, accs[p.Alter]); q != p || e != api.OK {
				t.Errorf("%v in the clef %d: %v, %d", p, c, q, e)
			}
		}
	}
}
