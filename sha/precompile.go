package sha

import (
	"railhead/api"
	"railhead/word"
)

// pieceBytes are paid for together.
const pieceBytes = 32

// Cost is what the precompile there costs for so many bytes; false: there is none, or they are too many.
func Cost(at api.Word, many int) (int, bool) {
	if many < 0 || many > api.MaxBytes {
		return 0, false
	}
	pieces := roundedUp(many, pieceBytes)
	switch at {
	case word.Of(api.ShaAt):
		return 60 + 12*pieces, true
	case word.Of(api.IdentityAt):
		return 15 + 3*pieces, true
	}
	return 0, false
}

// Run is what the precompile there makes of a text, and what it leaves of the gas; false: there is none, or it costs more.
func Run(at api.Word, s string, gas int) (string, int, bool) {
	cost, is := Cost(at, len(s))
	if !is || cost > gas {
		return "", 0, false
	}
	out := s
	if at == word.Of(api.ShaAt) {
		// There is no error: what has a cost is not too long.
		out, _ = Sum(s)
	}
	return out, gas - cost, true
}
