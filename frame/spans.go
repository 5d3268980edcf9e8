package frame

import (
	"iter"

	"railhead/api"
	"railhead/memory"
	"railhead/word"
)

const wordBytes = 32

// span is a piece of memory: where it begins, and how many bytes it has.
type span struct{ at, n api.Word }

// from is where a span that was reached begins. An empty one reaches nothing, wherever it is: it may as well be at the beginning.
func (s span) from() int {
	if s.n == (api.Word{}) {
		return 0
	}
	return number(s.at)
}

// needs tells how many words of memory there have to be for each span; false: more than there may be.
func needs(spans ...span) iter.Seq2[int, bool] {
	return func(yield func(int, bool) bool) {
		for _, s := range spans {
			if !yield(memory.Need(s.at, s.n)) {
				return
			}
		}
	}
}

// reached is how many words there are, of so many, when spans are reached; false: more than there may be.
func reached(words int, spans ...span) (int, bool) {
	for need, is := range needs(spans...) {
		if !is {
			return 0, false
		}
		words = max(words, need)
	}
	return words, true
}

// number is a word's number, but the greatest one that there is, if it is greater.
func number(w api.Word) int {
	n, is := word.Int(w)
	if !is {
		return api.MaxInt
	}
	return n
}
