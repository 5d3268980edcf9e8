package bit

import "railhead/api"

// operation is what two words' bits are asked for, a part of each at once.
type operation interface {
	and | or | xor
	of(x, y uint64) uint64
}

type (
	and struct{}
	or  struct{}
	xor struct{}
)

func (and) of(x, y uint64) uint64 { return x & y }
func (or) of(x, y uint64) uint64  { return x | y }
func (xor) of(x, y uint64) uint64 { return x ^ y }

// pair makes a word of the parts of two that stand at one place.
func pair[O operation](a, b api.Word) api.Word {
	var made api.Word
	var asked O
	for place, part := range a {
		made[place] = asked.of(part, b[place])
	}
	return made
}
