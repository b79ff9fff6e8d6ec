package lexicon_test

import (
	"fmt"
	"math"
	"math/rand"
	"reflect"
	"slices"
	"strings"
	"testing"

	"custos/api"
	"custos/lexicon"
)

// extremes has numbers that are too great, or too small, for everything.
var extremes = []int{math.MinInt, math.MinInt + 1, -1 << 32, -1000, 1 << 24, 1 << 32, math.MaxInt - 1, math.MaxInt}

// line is a line of signs.
type line = [][]api.Option

// seen returns a line of signs, each from a text of characters (_ is the blank) with their misses as digits.
func seen(signs ...string) line {
	var l line
	for _, s := range signs {
		var options []api.Option
		for i := 0; i+1 < len(s); i += 2 {
			options = append(options, api.Option{Value: strings.IndexByte("_abcdefghijklmnopqrstuvwxyz-", s[i]), Miss: int(s[i+1] - '0')})
		}
		l = append(l, options)
	}
	return l
}

// sure returns a line that shows a text without doubt, with room for a hyphen.
func sure(text string) line {
	var signs []string
	for _, c := range text {
		signs = append(signs, string(c)+"0")
	}
	return seen(append(signs, "_0-1")...)
}

// begin returns a lexicon.
func begin(t *testing.T, words ...string) *lexicon.Lexicon {
	t.Helper()
	x, e := lexicon.New(words)
	if x == nil || e != api.OK {
		t.Fatalf("New(%q): error %d", words, e)
	}
	return x
}

// same compares two values; empty lists and nil are the same.
func same(a, b any) bool {
	return fmt.Sprintf("%+v", a) == fmt.Sprintf("%+v", b)
}

// zero reports whether a value is the zero value of its type, or an empty list.
func zero(x any) bool {
	v := reflect.ValueOf(x)
	return v.IsZero() || v.Kind() == reflect.Slice && v.Len() == 0
}

// copied returns a copy of lines.
func copied(lines []line) []line {
	var out []line
	for _, l := range lines {
		var signs line
		for _, s := range l {
			signs = append(signs, slices.Clone(s))
		}
		out = append(out, signs)
	}
	return out
}

// text returns some of the first letters of the alphabet.
func text(r *rand.Rand, most, letters int) string {
	var b []byte
	for range 1 + r.Intn(most) {
		b = append(b, byte('a'+r.Intn(letters)))
	}
	return string(b)
}

// vocabulary returns some short words with few letters, some of them twice.
func vocabulary(r *rand.Rand) []string {
	var l []string
	for range r.Intn(8) {
		l = append(l, text(r, 5, 2))
	}
	return l
}

// blurred returns a line of a few signs with few letters, often with equal costs.
func blurred(r *rand.Rand, most int) line {
	var l line
	for range r.Intn(most + 1) {
		var options []api.Option
		for _, value := range r.Perm(4) {
			if r.Intn(3) > 0 {
				options = append(options, api.Option{Value: []int{0, 1, 2, 27}[value], Miss: r.Intn(3)})
			}
		}
		l = append(l, options)
	}
	return l
}

// wrongLine is a line that is not valid.
type wrongLine struct {
	name  string
	l     line
	errno api.Errno
}

// wrongLines returns lines that are not valid.
func wrongLines() []wrongLine {
	of := func(l ...api.Option) line { return line{l} }
	good := api.Option{Value: 1, Miss: 1}
	l := []wrongLine{
		{"a sign too many", make(line, 25), api.ErrMany},
		{"many signs", make(line, 100000), api.ErrMany},
		{"a sign too many behind a wrong one", append(of(api.Option{Value: 28}), make(line, 24)...), api.ErrMany},
		{"a Miss below 0", of(api.Option{Value: 1, Miss: -1}), api.ErrArg},
		{"a Miss above Never", of(good, api.Option{Value: 2, Miss: 1000001}), api.ErrArg},
		{"a Value below 0", of(good, api.Option{Value: -1}), api.ErrArg},
		{"a Value above 27", of(api.Option{Value: 28}), api.ErrArg},
		{"a Value twice", of(good, api.Option{Value: 2}, good), api.ErrArg},
		{"a Value twice with two misses", of(good, api.Option{Value: 1}), api.ErrArg},
		{"the blank twice", of(api.Option{}, api.Option{}), api.ErrArg},
		{"the hyphen twice", of(api.Option{Value: 27}, api.Option{Value: 27, Miss: 3}), api.ErrArg},
		{"more options than characters", of(make([]api.Option, 29)...), api.ErrArg},
		{"the last sign", append(make(line, 23), []api.Option{good, {Value: 0, Miss: -1}}), api.ErrArg},
	}
	for _, x := range extremes {
		l = append(l, wrongLine{"an extreme Miss", of(good, api.Option{Value: 2, Miss: x}), api.ErrArg}, wrongLine{"an extreme Value", of(good, api.Option{Value: x, Miss: 2}), api.ErrArg})
	}
	return l
}

// wides returns the letters of lines and words that are as many and as long as they may be: few words differ in their first letters, but all of them in the last ones.
func wides(r *rand.Rand) []string {
	var l []string
	for i := range 2000 {
		b := []byte(strings.Repeat("m", 24))
		for j := range b[1:] {
			b[j+1] = byte('a' + r.Intn(26))
		}
		b[0] = byte('a' + i%26)
		l = append(l, string(b))
	}
	return l
}
