package score

import (
	"strings"

	"custos/api"
)

// reader reads the tokens of a text one after the other: its words, and each byte at which words end.
type reader struct {
	text   string
	stops  string // the bytes at which words end
	blanks string // those of them that may stand between tokens, and are none
	at     int    // where the next token begins
}

// readScore returns the score that a function reads from a whole text, or an error and its index, which is that of a place in the text.
func readScore(r *reader, whole func(r *reader) api.Score, index func(at int) int) (s api.Score, i int, e api.Errno) {
	if len(r.text) > api.MaxText {
		return api.Score{}, 0, api.ErrMany
	}
	defer func() {
		if recover() != nil {
			s, i, e = api.Score{}, index(r.at), api.ErrForm
		}
	}()
	r.skip()
	s = whole(r)
	if _, e = Check(s); e != api.OK {
		return api.Score{}, index(len(r.text)), e
	}
	return s, 0, api.OK
}

// fail says that the next token cannot stand there.
func (r *reader) fail() {
	panic(api.ErrForm)
}

// peek returns the next token; it is empty at the end of the text.
func (r *reader) peek() string {
	rest := r.text[r.at:]
	switch end := strings.IndexAny(rest, r.stops); end {
	case -1:
		return rest
	case 0:
		return rest[:1]
	default:
		return rest[:end]
	}
}

// pass goes on behind the next token.
func (r *reader) pass() {
	r.at += len(r.peek())
	r.skip()
}

// skip goes on to where a token begins.
func (r *reader) skip() {
	r.at = len(r.text) - len(strings.TrimLeft(r.text[r.at:], r.blanks))
}

// expect passes some tokens that must come next. An empty one is the end of the text.
func (r *reader) expect(tokens ...string) {
	for _, t := range tokens {
		if r.peek() != t {
			r.fail()
		}
		r.pass()
	}
}

// some reads things that begin with a token each, as many as there are, but at least one.
func (r *reader) some(begin string, one func()) {
	for more := true; more; more = r.peek() == begin {
		r.expect(begin)
		one()
	}
}

// has passes a word if it comes next, and reports whether it does.
func (r *reader) has(word string) bool {
	has := r.peek() == word
	if has {
		r.pass()
	}
	return has
}

// read returns what the next word means, which must mean something.
func read[T any](r *reader, meaning func(word string) (T, bool)) T {
	x, ok := meaning(r.peek())
	if !ok {
		r.fail()
	}
	r.pass()
	return x
}

// readIf returns what the next word means, or a zero value if it means nothing.
func readIf[T any](r *reader, meaning func(word string) (T, bool)) T {
	x, ok := meaning(r.peek())
	if !ok {
		var none T
		return none
	}
	r.pass()
	return x
}
