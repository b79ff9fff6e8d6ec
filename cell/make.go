package cell

import (
	"strings"

	"custos/api"
)

// steps is how many steps there are for heads, the most Indices that features with one What have.
const steps = highest - lowest + 1

// choices has the values that are chosen for features, by What and by the number of the Index among those of its What.
type choices struct {
	values [api.WText + 1][steps]int
	given  [api.WText + 1][steps]bool
}

// Make returns the cell that is chosen among the options of features.
func Make(kind api.Kind, l []api.Feature, choice []int) (api.Cell, api.Errno) {
	if !isKind(kind) || len(l) != len(choice) {
		return api.Cell{}, api.ErrArg
	}
	var chosen choices
	for i, f := range l {
		if !chosen.add(kind, f, choice[i]) {
			return api.Cell{}, api.ErrArg
		}
	}
	key, ok := chosen.key()
	if !ok {
		return api.Cell{}, api.ErrKey
	}
	text, ok := chosen.text()
	if !ok {
		return api.Cell{}, api.ErrText
	}
	c := chosen.cell(kind)
	c.Key, c.Text = key, text
	if !valid(c) {
		return api.Cell{}, api.ErrCell
	}
	return c, api.OK
}

// add adds the option of a feature that is chosen, and reports whether this is allowed.
func (c *choices) add(kind api.Kind, f api.Feature, choice int) bool {
	w, index := f.Place.What, f.Place.Index
	if !isPlace(w, index) || questions[w].kind != kind || !within(choice, 0, len(f.Options)-1) {
		return false
	}
	i, value := index-questions[w].first, f.Options[choice].Value
	if c.given[w][i] || ofHead(w) && !c.given[api.WHead][i] || !answers(w, value) {
		return false
	}
	c.given[w][i], c.values[w][i] = true, value
	return true
}

// ofHead reports whether features with this What belong to a head.
func ofHead(w api.What) bool {
	return w == api.WAcc || w == api.WDot || w == api.WTie
}

// key returns the key that is chosen, and whether there is one.
func (c *choices) key() (int, bool) {
	for key := -maxKey; key <= maxKey; key++ {
		if signsOf(key) == [keySigns]int(c.values[api.WKey][:keySigns]) {
			return key, true
		}
	}
	return 0, false
}

// text returns the text that is chosen, and whether there is one.
func (c *choices) text() (string, bool) {
	var b []byte
	for _, value := range c.values[api.WText][:maxLength] {
		b = append(b, letters[value])
	}
	t := strings.TrimRight(string(b), " ")
	return t, isText(t)
}

// cell returns the cell that is chosen, but for its key and its text.
func (c *choices) cell(kind api.Kind) api.Cell {
	out := api.Cell{
		Kind:  kind,
		Clef:  api.Clef(c.values[api.WClef][0]),
		Beats: c.values[api.WBeats][0],
		Unit:  c.values[api.WUnit][0],
		Bar:   api.Bar(c.values[api.WBar][0]),
		Free:  c.is(api.WFree, 0),
		Heads: c.heads(),
		Beam:  [beams]int(c.values[api.WBeam][:beams]),
	}
	for zone := range out.Rest {
		out.Rest[zone], out.RestDot[zone] = api.Value(c.values[api.WRest][zone]), c.is(api.WRestDot, zone)
	}
	for side := range out.Stem {
		out.Stem[side], out.Triple[side] = c.is(api.WStem, side), c.is(api.WTriple, side)
	}
	return out
}

// heads returns the heads that are chosen, by increasing step.
func (c *choices) heads() []api.Head {
	var l []api.Head
	for i, kind := range c.values[api.WHead] {
		if c.given[api.WHead][i] {
			l = append(l, api.Head{Step: lowest + i, Kind: kind, Acc: c.values[api.WAcc][i], Dot: c.is(api.WDot, i), Tie: c.is(api.WTie, i)})
		}
	}
	return l
}

// is reports whether the value 1 is chosen.
func (c *choices) is(w api.What, i int) bool {
	return c.values[w][i] == 1
}
