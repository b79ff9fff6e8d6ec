package cell

import (
	"cmp"
	"iter"
	"slices"

	"custos/api"
	"custos/font"
)

// guess is a head that may be seen, and how many pixels speak against it.
type guess struct {
	head api.Head
	miss int
}

// IsBar reports whether an image shows a barline.
func IsBar(k api.Ink) bool {
	return suitable(k) && options(k, api.WBar, 0)[0].Miss <= BarMost
}

// Seen returns the heads that are seen in an image.
func Seen(k api.Ink) []api.Head {
	if !suitable(k) {
		return nil
	}
	return seen(k)
}

// Read returns the features of an image.
func Read(k api.Ink, kind api.Kind) ([]api.Feature, api.Errno) {
	switch {
	case !suitable(k):
		return nil, api.ErrSize
	case !isKind(kind):
		return nil, api.ErrArg
	}
	var l []api.Feature
	for f := range features(k, kind) {
		l = append(l, f)
	}
	return l, api.OK
}

// features yields the features of a suitable image.
func features(k api.Ink, kind api.Kind) iter.Seq[api.Feature] {
	return func(yield func(api.Feature) bool) {
		var heads []api.Head
		if kind == api.EventCell {
			heads = seen(k)
		}
		for at := range places(kind, heads) {
			if !yield(api.Feature{Place: at, Options: options(k, at.What, at.Index)}) {
				return
			}
		}
	}
}

// seen returns the heads that are seen in a suitable image.
func seen(k api.Ink) []api.Head {
	var heads []api.Head
	for _, g := range guesses(k) {
		if !slices.ContainsFunc(heads, func(h api.Head) bool {
			return within(h.Step-g.head.Step, 1-leastDistance, leastDistance-1)
		}) {
			heads = append(heads, g.head)
		}
	}
	slices.SortFunc(heads, func(a, b api.Head) int { return cmp.Compare(a.Step, b.Step) })
	return heads
}

// guesses returns for each step the head that may be seen there, if there is one, the best ones first.
func guesses(k api.Ink) []guess {
	var l []guess
	for step := lowest; step <= highest; step++ {
		if best := options(k, api.WHead, step)[0]; best.Miss <= HeadMost {
			l = append(l, guess{api.Head{Step: step, Kind: best.Value}, best.Miss})
		}
	}
	slices.SortStableFunc(l, func(a, b guess) int { return cmp.Compare(a.miss, b.miss) })
	return l
}

// options returns the options of a feature of a suitable image.
func options(k api.Ink, w api.What, index int) []api.Option {
	var l []api.Option
	for value := range values(w) {
		l = append(l, api.Option{Value: value, Miss: against(k, w, index, value)})
	}
	slices.SortStableFunc(l, func(a, b api.Option) int { return cmp.Compare(a.Miss, b.Miss) })
	return l
}

// against returns how many pixels of a window differ from the picture of a value: what is drawn for it alone, without the staff lines.
func against(k api.Ink, w api.What, index, value int) int {
	drawn := blank()
	drawn.put(w, index, value)
	n := 0
	for _, r := range Windows(w, index) {
		n += font.Miss(font.Window(k, r), font.Dress(font.Window(drawn.Ink, r), linesIn(r)))
	}
	return n
}

// linesIn returns the rows that the staff lines have in a window.
func linesIn(r api.Rect) []int {
	var l []int
	for _, y := range Lines() {
		l = append(l, y-r.Y)
	}
	return l
}
