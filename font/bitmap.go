package font

import (
	"math/bits"

	"custos/api"
)

// wordSize is the number of bits in a word.
const wordSize = 64

// bitmap has the pixels of an image as bits, so that many are compared at once. Each row begins with a word of its own.
type bitmap struct {
	length int
	words  []uint64
}

// pack returns the bits of an image.
func pack(k api.Ink) bitmap {
	length := (k.W + wordSize - 1) / wordSize
	b := bitmap{length, make([]uint64, k.H*length)}
	for y := range k.H {
		row := b.row(y)
		for x, p := range k.Pix[y*k.W : (y+1)*k.W] {
			row[x/wordSize] |= uint64(p) << (x % wordSize)
		}
	}
	return b
}

// row returns the words of a row.
func (b bitmap) row(y int) []uint64 {
	return b.words[y*b.length : (y+1)*b.length]
}

// difference counts the bits of a mask in which a row differs from what is under it, if it lies there from a column on.
func difference(row, mask, under []uint64, column int) int {
	first, shift := column/wordSize, column%wordSize
	n := 0
	for i, m := range mask {
		word := under[first+i] >> shift
		if first+i+1 < len(under) {
			word |= under[first+i+1] << (wordSize - shift)
		}
		n += bits.OnesCount64((word ^ row[i]) & m)
	}
	return n
}
