package word

import (
	"iter"
	"math/bits"

	"railhead/api"
)

const (
	partBytes = 8
	wordBytes = 32
)

// parts goes through a word's parts and their places, the lowest one first: that is how carries go.
func parts(w *api.Word) iter.Seq2[int, uint64] {
	return func(yield func(int, uint64) bool) {
		for place := range len(w) {
			if !yield(place, w[place]) {
				return
			}
		}
	}
}

// join makes a word of two, part by part. Each pair of parts gets what the pair below it left (a carry, or an order), and leaves something to the next one.
func join[T any](a, b api.Word, left T, pair func(x, y uint64, left T) (uint64, T)) (api.Word, T) {
	made := api.Word{}
	for place, part := range parts(&a) {
		made[place], left = pair(part, b[place], left)
	}
	return made, left
}

// addRow adds a word times a factor to places of a sum; what goes beyond these is lost.
func addRow(sum []uint64, w *api.Word, factor uint64) {
	carry := uint64(0)
	for place, part := range parts(w) {
		if place == len(sum) {
			return
		}
		sum[place], carry = timesPlus(part, factor, sum[place], carry)
	}
}

// scale is a word times a factor, and one more number; and what goes beyond 256 bits.
func scale(w *api.Word, factor, plus uint64) (api.Word, uint64) {
	made := api.Word{}
	for place, part := range parts(w) {
		made[place], plus = timesPlus(part, factor, plus, 0)
	}
	return made, plus
}

// timesPlus is x times y, and p, and q. It never carries out of its high part: (2^64-1)^2 and twice 2^64-1 are 2^128-1.
func timesPlus(x, y, p, q uint64) (low, high uint64) {
	high, low = bits.Mul64(x, y)
	low, carry := bits.Add64(low, p, 0)
	high += carry
	low, carry = bits.Add64(low, q, 0)
	return low, high + carry
}
