package font

import (
	"slices"
	"strings"

	"custos/api"
)

// signs has the characters of paper and of ink.
const signs = ".#"

// maxValue is the greatest value of a glyph.
const maxValue = 27

// texts are the glyphs of a set by their values, each row by row; a value that the set does not have is empty.
type texts [maxValue + 1]string

// read returns the image of a text.
func read(text string) api.Ink {
	rows := strings.Fields(text)
	return paint(len(rows[0]), len(rows), func(x, y int) byte {
		return byte(strings.IndexByte(signs, rows[y][x]))
	})
}

// drawings returns the texts of a set.
func drawings(s Set) texts {
	if s == Bars {
		return barlines()
	}
	return map[Set]texts{
		Heads: {
			1: ".####. ###### ###### ###### .####.",
			2: ".####. #....# #....# #....# .####.",
			3: ".####. ##..## ##..## ##..## .####.",
		},
		Accs: {
			1: ".#.# #### .#.# #### .#.#",
			2: "#... #... ###. #.#. ##..",
			3: "#..# #.## #### ##.# #..#",
		},
		Dots: {1: ".. ## ## .. .."},
		Ties: {1: "... ... ... #.# .#."},
		Rests: {
			1:  "...... ...... ...... ...... .####. .####. ......",
			2:  "...... .####. .####. ...... ...... ...... ......",
			4:  ".##... ..##.. ...##. ..##.. .##... ..##.. ...##.",
			8:  "##...# ##..#. .###.. ...#.. ..#... ..#... .#....",
			16: "##...# ##..#. .###.. ##.#.. ####.. ..#... .#....",
		},
		Clefs: {
			1: ".##### ##.... ##.### ##..## .#####",
			2: ".##### ##.... ##.... ##.... .#####",
			3: "###### ##.... #####. ##.... ##....",
		},
		Digits:  digits(),
		Letters: letters(),
		Marks:   {1: ".. ## ## .."},
	}[s]
}

// digits returns the texts of the digits.
func digits() texts {
	return texts{
		1: "..#. .##. ..#. ..#. .###",
		2: "###. ...# .##. #... ####",
		3: "###. ...# .##. ...# ###.",
		4: "#..# #..# #### ...# ...#",
		5: "#### #... ###. ...# ###.",
		6: ".##. #... ###. #..# .##.",
		7: "#### ...# ..#. .#.. .#..",
		8: ".##. #..# .##. #..# .##.",
		9: ".##. #..# .### ...# .##.",
	}
}

// letters returns the texts of the letters; the last one is the hyphen.
func letters() texts {
	return texts{
		1:  ".##. #..# #### #..# #..#",
		2:  "###. #..# ###. #..# ###.",
		3:  ".### #... #... #... .###",
		4:  "###. #..# #..# #..# ###.",
		5:  "#### #... ###. #... ####",
		6:  "#### #... ###. #... #...",
		7:  ".### #... #.## #..# .###",
		8:  "#..# #..# #### #..# #..#",
		9:  "###. .#.. .#.. .#.. ###.",
		10: "..## ...# ...# #..# .##.",
		11: "#..# #.#. ##.. #.#. #..#",
		12: "#... #... #... #... ####",
		13: "#..# #### #### #..# #..#",
		14: "#..# ##.# #.## #..# #..#",
		15: ".##. #..# #..# #..# .##.",
		16: "###. #..# ###. #... #...",
		17: ".##. #..# #..# #.## .###",
		18: "###. #..# ###. #.#. #..#",
		19: ".### #... .##. ...# ###.",
		20: "#### .#.. .#.. .#.. .#..",
		21: "#..# #..# #..# #..# .##.",
		22: "#..# #..# #..# .##. .##.",
		23: "#..# #..# #### #### #..#",
		24: "#..# .##. .##. .##. #..#",
		25: "#..# #..# .### ...# .##.",
		26: "#### ...# .##. #... ####",
		27: ".... .... #### .... ....",
	}
}

// barlines returns the texts of the barlines. Beside their columns they have dots in the rows 8, 9, 14 and 15 of 25.
func barlines() texts {
	columns := [...][]int{1: {5}, 2: {4, 6}, 3: {4, 6, 7}, 4: {3, 4, 6}, 5: {4, 6, 7}}
	dotColumns := [...][]int{4: {8, 9}, 5: {1, 2}}
	var l texts
	for value := 1; value < len(columns); value++ {
		plain := barRow(columns[value])
		dots := strings.Repeat(barRow(slices.Concat(columns[value], dotColumns[value])), 2)
		l[value] = strings.Repeat(plain, 8) + dots + strings.Repeat(plain, 4) + dots + strings.Repeat(plain, 9)
	}
	return l
}

// barRow returns the text of a row with ink in some columns.
func barRow(columns []int) string {
	row := []byte(".......... ")
	for _, x := range columns {
		row[x] = '#'
	}
	return string(row)
}
