package tone

import (
	"custos/api"
)

// The accidentals.
const (
	noAccidental = 0
	sharp        = 1
	flat         = 2
	naturalSign  = 3
)

// State knows which alterations hold.
type State struct {
	signature
	self *State // the state itself, if New or Copy returned it
	held [steps]int
}

// New returns a state of a key.
func New(key int) (*State, api.Errno) {
	if !isKey(key) {
		return nil, api.ErrKey
	}
	s := &State{signature: signature{key}}
	s.self = s
	s.Reset()
	return s, api.OK
}

// Reset makes a state what it was at first.
func (s *State) Reset() api.Errno {
	if !s.made() {
		return api.ErrNil
	}
	for step := range s.held {
		s.held[step] = s.alter(step)
	}
	return api.OK
}

// At returns the alteration that holds at a Step.
func (s *State) At(step int) (int, api.Errno) {
	if !s.made() {
		return 0, api.ErrNil
	}
	if !isStep(step) {
		return 0, api.ErrPitch
	}
	return s.held[step], api.OK
}

// Print returns the accidental that must be printed.
func (s *State) Print(step, alter int) (int, api.Errno) {
	if !s.made() {
		return 0, api.ErrNil
	}
	if !isStep(step) || !isAlteration(alter) {
		return 0, api.ErrPitch
	}
	if s.held[step] == alter {
		return noAccidental, api.OK
	}
	s.held[step] = alter
	return printed(alter), api.OK
}

// Hear returns the alteration of a printed note.
func (s *State) Hear(step, acc int) (int, api.Errno) {
	if !s.made() {
		return 0, api.ErrNil
	}
	if !isStep(step) {
		return 0, api.ErrPitch
	}
	if acc == noAccidental {
		return s.held[step], api.OK
	}
	if !isAccidental(acc) || s.held[step] == meant(acc) {
		return 0, api.ErrAcc
	}
	s.held[step] = meant(acc)
	return s.held[step], api.OK
}

// Copy returns an independent state.
func (s *State) Copy() *State {
	if !s.made() {
		return nil
	}
	c := *s
	c.self = &c
	return &c
}

// made reports whether New or Copy returned this state.
func (s *State) made() bool {
	return s != nil && s.self == s
}

// meant returns the alteration of an accidental.
func meant(acc int) int {
	switch acc {
	case sharp:
		return 1
	case flat:
		return -1
	}
	return 0
}

// printed returns the accidental of an alteration.
func printed(alter int) int {
	switch alter {
	case 1:
		return sharp
	case -1:
		return flat
	}
	return naturalSign
}

// isAccidental reports whether there is such an accidental.
func isAccidental(acc int) bool {
	return within(acc, noAccidental, naturalSign)
}

// isAlteration reports whether a pitch may have this alteration.
func isAlteration(alter int) bool {
	return within(alter, -1, 1)
}
