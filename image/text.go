package image

import (
	"strconv"
	"strings"

	"custos/api"
)

// signs has the characters of paper and of ink.
const signs = ".#"

// maxDigits is the most digits that a number of a text may have.
const maxDigits = 9

// Format returns the text of an image.
func Format(g api.Ink) (string, api.Errno) {
	if e := Check(g); e != api.OK {
		return "", e
	}
	var b strings.Builder
	b.WriteString(strconv.Itoa(g.W) + " " + strconv.Itoa(g.H) + "\n")
	for y := range g.H {
		for _, p := range line(g, y) {
			b.WriteByte(signs[p])
		}
		b.WriteByte('\n')
	}
	return b.String(), api.OK
}

// Parse returns the image of a text.
func Parse(text string) (api.Ink, int, api.Errno) {
	w, h, rest, ok := parseSides(text)
	if !ok {
		return api.Ink{}, 0, api.ErrForm
	}
	g, e := New(w, h)
	if e != api.OK {
		return api.Ink{}, 0, e
	}
	for y := range h {
		row, after, found := strings.Cut(rest, "\n")
		if !found || !parseRow(line(g, y), row) {
			return api.Ink{}, y + 1, api.ErrForm
		}
		rest = after
	}
	if rest != "" {
		return api.Ink{}, h + 1, api.ErrForm
	}
	return g, 0, api.OK
}

// parseSides reads the first line of a text, and returns what follows it.
func parseSides(text string) (w, h int, rest string, ok bool) {
	first, rest, found := strings.Cut(text, "\n")
	left, right, _ := strings.Cut(first, " ")
	w, wide := parseNumber(left)
	h, high := parseNumber(right)
	return w, h, rest, found && wide && high
}

// parseNumber reads a number without leading zeros.
func parseNumber(s string) (int, bool) {
	if s == "" || len(s) > maxDigits || s[0] == '0' && len(s) > 1 {
		return 0, false
	}
	n := 0
	for i := range len(s) {
		if s[i] < '0' || s[i] > '9' {
			return 0, false
		}
		n = 10*n + int(s[i]-'0')
	}
	return n, true
}

// parseRow reads a line of a text to the pixels of a row.
func parseRow(pix []byte, row string) bool {
	if len(row) != len(pix) {
		return false
	}
	for x := range pix {
		p := strings.IndexByte(signs, row[x])
		if p < 0 {
			return false
		}
		pix[x] = byte(p)
	}
	return true
}
