package tone_test

import (
	"math"
	"testing"

	"custos/api"
	"custos/tone"
)

// extremes has numbers that are too great, or too small, for everything.
var extremes = []int{math.MinInt, math.MinInt + 1, math.MinInt + 30, -1 << 32, 1 << 32, math.MaxInt - 30, math.MaxInt - 1, math.MaxInt}

// clefs has all clefs, and the Step of each one's bottom line.
var clefs = map[api.Clef]int{api.Treble: 30, api.Alto: 24, api.Bass: 18}

// noClefs has numbers that are no clefs.
var noClefs = []api.Clef{math.MinInt, -1, 0, 4, 5, math.MaxInt}

// noKeys has numbers that are no keys.
var noKeys = append([]int{-6, -5, 5, 6, 7}, extremes...)

// noSteps has numbers that are the Step of no pitch.
var noSteps = append([]int{-2, -1, 70, 71, 77}, extremes...)

// noAlters has numbers that are the Alter of no pitch.
var noAlters = append([]int{-3, -2, 2, 3}, extremes...)

// noAccs has numbers that are no accidentals.
var noAccs = append([]int{-2, -1, 4, 5}, extremes...)

// names has the names of the letters.
const names = "cdefgab"

// semitones has the semitones of the letters.
var semitones = []int{0, 2, 4, 5, 7, 9, 11}

// ratio returns a fraction as it stands.
func ratio(n, d int) api.Ratio {
	return api.Ratio{N: n, D: d}
}

// pitches returns all valid pitches.
func pitches() []api.Pitch {
	var l []api.Pitch
	for step := range 70 {
		for alter := -1; alter <= 1; alter++ {
			l = append(l, api.Pitch{Step: step, Alter: alter})
		}
	}
	return l
}

// noPitches returns pitches that are not valid.
func noPitches() []api.Pitch {
	var l []api.Pitch
	for _, step := range noSteps {
		l = append(l, api.Pitch{Step: step}, api.Pitch{Step: step, Alter: 1})
	}
	for _, alter := range noAlters {
		l = append(l, api.Pitch{Step: 28, Alter: alter}, api.Pitch{Step: 0, Alter: alter})
	}
	return l
}

// keyed returns the alteration of a Step in a key, by the names of the letters.
func keyed(key, step int) int {
	name := names[step%7]
	raised, lowered := "fcgd", "bead"
	for i := range 4 {
		if i < key && raised[i] == name {
			return 1
		}
		if i < -key && lowered[i] == name {
			return -1
		}
	}
	return 0
}

// sounds returns the semitone of a valid pitch.
func sounds(p api.Pitch) int {
	return p.Step/7*12 + semitones[p.Step%7] + p.Alter
}

// begin returns a state of a key.
func begin(t *testing.T, key int) *tone.State {
	t.Helper()
	s, e := tone.New(key)
	if e != api.OK || s == nil {
		t.Fatalf("New(%d): error %d", key, e)
	}
	return s
}

// all returns what holds at all Steps of a state.
func all(t *testing.T, s *tone.State) [70]int {
	t.Helper()
	var l [70]int
	for step := range l {
		alter, e := s.At(step)
		if e != api.OK {
			t.Fatalf("At(%d): error %d", step, e)
		}
		l[step] = alter
	}
	return l
}
