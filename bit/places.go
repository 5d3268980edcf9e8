package bit

import (
	"iter"
	"math/bits"

	"railhead/api"
	"railhead/word"
)

const (
	byteBits  = 8
	partBits  = 64
	wordBits  = 256
	wordBytes = wordBits / byteBits
)

// ones goes through the places of the bits that are 1, the lowest one first.
func ones(w *api.Word) iter.Seq[int] {
	return func(yield func(int) bool) {
		for i, part := range w {
			for ; part != 0; part &= part - 1 {
				if !yield(i*partBits + bits.TrailingZeros64(part)) {
					return
				}
			}
		}
	}
}

// moved are a word's bits, so many places further up, or down, if that is below 0; 0, where there is none.
func moved(w api.Word, up int) api.Word {
	made := api.Word{}
	for place := range ones(&w) {
		if to := place + up; 0 <= to && to < wordBits {
			made[to/partBits] |= 1 << (to % partBits)
		}
	}
	return made
}

// distance is a word's number; one that is beyond MaxInt moves each bit out of a word, and so does the distance told instead.
func distance(by api.Word) int {
	n, is := word.Int(by)
	if !is {
		return wordBits
	}
	return n
}
