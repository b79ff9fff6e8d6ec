package score

import (
	"custos/api"
	"custos/tone"
)

// Transpose returns a transposed score.
func Transpose(s api.Score, i tone.Interval) (api.Score, api.Errno) {
	if _, e := Check(s); e != api.OK {
		return api.Score{}, e
	}
	key, e := tone.Key(s.Key, i)
	if e != api.OK {
		return api.Score{}, e
	}
	t := Copy(s)
	t.Key = key
	for at := range events(t) {
		notes := eventAt(t, at).Notes
		for n := range notes {
			if notes[n].Pitch, e = tone.Transpose(notes[n].Pitch, i); e != api.OK {
				return api.Score{}, e
			}
		}
	}
	return t, api.OK
}

// Split returns one score for each part.
func Split(s api.Score) ([]api.Score, api.Errno) {
	if _, e := Check(s); e != api.OK {
		return nil, e
	}
	l := make([]api.Score, len(s.Parts))
	for p := range l {
		one := s
		one.Parts = s.Parts[p : p+1]
		l[p] = Copy(one)
	}
	return l, api.OK
}

// Join returns the score with the parts of all scores.
func Join(l []api.Score) (api.Score, api.Errno) {
	if len(l) == 0 {
		return api.Score{}, api.ErrArg
	}
	for _, s := range l {
		if _, e := Check(s); e != api.OK {
			return api.Score{}, e
		}
	}
	// Each score has a part.
	if len(l) > api.MaxParts {
		return api.Score{}, api.ErrParts
	}
	all := l[0]
	all.Parts = nil
	for _, s := range l {
		if !sameFrame(s, all) {
			return api.Score{}, api.ErrParts
		}
		all.Parts = append(all.Parts, s.Parts...)
	}
	// It may have too many parts, or free measures of which the scores disagree how long they are.
	if _, e := Check(all); e != api.OK {
		return api.Score{}, e
	}
	return Copy(all), api.OK
}
