package tone

import (
	"strings"

	"custos/api"
)

// letterNames has the names of the letters, in the order of their numbers.
const letterNames = "cdefgab"

// Semitone returns the semitone of a pitch.
func Semitone(p api.Pitch) (int, api.Errno) {
	if !isPitch(p) {
		return 0, api.ErrPitch
	}
	return natural(p.Step) + p.Alter, api.OK
}

// Name returns the name of a pitch.
func Name(p api.Pitch) (string, api.Errno) {
	if !isPitch(p) {
		return "", api.ErrPitch
	}
	marks := [3]string{"b", "", "#"}
	letter, octave := p.Step%letters, p.Step/letters
	return letterNames[letter:letter+1] + marks[p.Alter+1] + string([]byte{'0' + byte(octave)}), api.OK
}

// Parse returns the pitch of a name.
func Parse(s string) (api.Pitch, api.Errno) {
	if len(s) < 2 {
		return api.Pitch{}, api.ErrForm
	}
	last := len(s) - 1
	letter, octave := strings.IndexByte(letterNames, s[0]), int(s[last])-'0'
	alter := 0
	switch s[1:last] {
	case "":
	case "#":
		alter = 1
	case "b":
		alter = -1
	default:
		return api.Pitch{}, api.ErrForm
	}
	if letter < 0 || !within(octave, 0, 9) {
		return api.Pitch{}, api.ErrForm
	}
	return api.Pitch{Step: letters*octave + letter, Alter: alter}, api.OK
}

// natural returns the semitone of a Step, from 0 on, without an alteration.
func natural(step int) int {
	semitones := [letters]int{0, 2, 4, 5, 7, 9, 11}
	return 12*(step/letters) + semitones[step%letters]
}

// isPitch reports whether a pitch is valid.
func isPitch(p api.Pitch) bool {
	return isStep(p.Step) && isAlteration(p.Alter)
}
