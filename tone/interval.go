package tone

import (
	"strconv"
	"strings"

	"custos/api"
)

// farthest is how many steps, or semitones, the functions go in one direction.
const farthest = 200

// Interval is so many steps of the scale and so many semitones.
type Interval struct{ Steps, Semis int }

// width says how an interval differs from the one that leads upwards from C without an alteration.
type width struct {
	perfect bool // whether it is a kind of prime, fourth, fifth or octave
	excess  int  // in semitones
}

// Transpose returns a pitch that is an interval away.
func Transpose(p api.Pitch, i Interval) (api.Pitch, api.Errno) {
	if !i.near() {
		return api.Pitch{}, api.ErrRange
	}
	if !isPitch(p) || !isStep(p.Step+i.Steps) {
		return api.Pitch{}, api.ErrPitch
	}
	step := p.Step + i.Steps
	there := api.Pitch{Step: step, Alter: natural(p.Step) + p.Alter + i.Semis - natural(step)}
	if !isPitch(there) {
		return api.Pitch{}, api.ErrPitch
	}
	return there, api.OK
}

// Key returns a key that is an interval away.
func Key(key int, i Interval) (int, api.Errno) {
	if !i.near() {
		return 0, api.ErrRange
	}
	if !isKey(key) || !isKey(key+7*i.Semis-12*i.Steps) {
		return 0, api.ErrKey
	}
	return key + 7*i.Semis - 12*i.Steps, api.OK
}

// Between returns the interval between two pitches.
func Between(a, b api.Pitch) (Interval, api.Errno) {
	if !isPitch(a) || !isPitch(b) {
		return Interval{}, api.ErrPitch
	}
	return Interval{Steps: b.Step - a.Step, Semis: natural(b.Step) + b.Alter - natural(a.Step) - a.Alter}, api.OK
}

// Title returns the name of an interval.
func Title(i Interval) (string, api.Errno) {
	if !i.near() {
		return "", api.ErrRange
	}
	sign := ""
	if i.Steps < 0 || i.Steps == 0 && i.Semis < 0 {
		sign, i = "-", i.back()
	}
	if !isStep(i.Steps) {
		return "", api.ErrRange
	}
	quality, ok := qualities()[i.width()]
	if !ok {
		return "", api.ErrRange
	}
	return sign + quality + strconv.Itoa(i.Steps+1), api.OK
}

// Read returns the interval of a name.
func Read(s string) (Interval, api.Errno) {
	name, down := strings.CutPrefix(s, "-")
	if name == "" {
		return Interval{}, api.ErrForm
	}
	number, err := strconv.Atoi(name[1:])
	if err != nil || !isStep(number-1) {
		return Interval{}, api.ErrForm
	}
	for excess := -2; excess <= 1; excess++ {
		i := Interval{Steps: number - 1, Semis: natural(number-1) + excess}
		if down {
			i = i.back()
		}
		// No two intervals have the same name, and no name is written in two ways.
		if title, e := Title(i); e == api.OK && title == s {
			return i, api.OK
		}
	}
	return Interval{}, api.ErrForm
}

// qualities returns the names of the widths that have one.
func qualities() map[width]string {
	return map[width]string{
		{true, -1}:  "d",
		{true, 0}:   "P",
		{true, 1}:   "A",
		{false, -2}: "d",
		{false, -1}: "m",
		{false, 0}:  "M",
		{false, 1}:  "A",
	}
}

// width returns the width of an interval with Steps from 0 on.
func (i Interval) width() width {
	letter := i.Steps % letters
	return width{perfect: letter == 0 || letter == 3 || letter == 4, excess: i.Semis - natural(i.Steps)}
}

// near reports whether an interval goes not too far for being computed with.
func (i Interval) near() bool {
	return within(i.Steps, -farthest, farthest) && within(i.Semis, -farthest, farthest)
}

// back returns the interval that leads back.
func (i Interval) back() Interval {
	return Interval{Steps: -i.Steps, Semis: -i.Semis}
}
