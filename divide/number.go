package divide

import (
	"iter"
	"math/bits"

	"railhead/api"
	"railhead/word"
)

const partBits = 64

// sizes are a word's parts, and twice as many: a product of two words has them.
type sizes interface{ api.Word | [8]uint64 }

// number is a number of one of these sizes, the lowest part first.
type number[P sizes] struct{ parts P }

type (
	single = number[api.Word]
	double = number[[8]uint64]
)

// divide is a long division to the base 2: the quotient, rounded down, and the remainder; 0 and 0, if b is 0.
func divide[P sizes](a number[P], b api.Word) (quotient number[P], rest api.Word) {
	divisor := single{b}
	if divisor.length() == 0 {
		return quotient, rest
	}
	// What has a bit less than b is less than b: so many bits are brought down at once.
	low := max(0, a.length()-divisor.length()+1)
	rest = a.above(low)
	for place, bit := range a.bits(low) {
		if bringDown(&rest, &b, bit) {
			quotient.parts[place/partBits] |= 1 << (place % partBits)
		}
	}
	return quotient, rest
}

// bringDown sets one more bit behind a rest that is less than b, takes b off, if it can, and tells whether it could.
func bringDown(rest, b *api.Word, bit uint64) bool {
	over, short := bit, uint64(0)
	for i, part := range rest {
		rest[i], over = bits.Add64(part, part, over)
		_, short = bits.Sub64(rest[i], b[i], short)
	}
	// Twice the rest may be 2^256 or more. It is less than 2b nevertheless: what is left without b is a word's again.
	if over < short {
		return false
	}
	short = 0
	for i, part := range rest {
		rest[i], short = bits.Sub64(part, b[i], short)
	}
	return true
}

// bits goes through the bits that stand below a place, and their places, the highest one first: in that order quotients and powers come about.
func (n *number[P]) bits(below int) iter.Seq2[int, uint64] {
	return func(yield func(int, uint64) bool) {
		for place := below - 1; place >= 0; place-- {
			if !yield(place, n.parts[place/partBits]>>(place%partBits)&1) {
				return
			}
		}
	}
}

// above is the word of the bits from a place on.
func (n *number[P]) above(place int) api.Word {
	made := api.Word{}
	first, within := place/partBits, place%partBits
	for i := range made {
		made[i] = n.part(first+i)>>within | n.part(first+i+1)<<(partBits-within)
	}
	return made
}

// part is the part at a place, and 0 where the number has none.
func (n *number[P]) part(place int) uint64 {
	if place >= len(n.parts) {
		return 0
	}
	return n.parts[place]
}

// length is how many bits the number has, without noughts ahead.
func (n *number[P]) length() int {
	for place := len(n.parts) - 1; place >= 0; place-- {
		if part := n.parts[place]; part != 0 {
			return place*partBits + bits.Len64(part)
		}
	}
	return 0
}

// add adds a word to the parts from a place on.
func (n *number[P]) add(w api.Word, place int) {
	more, carry := single{w}, uint64(0)
	for i := place; i < len(n.parts); i++ {
		n.parts[i], carry = bits.Add64(n.parts[i], more.part(i-place), carry)
	}
}

// sum is the whole sum of two words.
func sum(a, b api.Word) double {
	made := double{}
	made.add(a, 0)
	made.add(b, 0)
	return made
}

// product is the whole product of two words. That of two halves is never too great for a word.
func product(a, b api.Word) double {
	made := double{}
	for i, x := range halves(a) {
		for j, y := range halves(b) {
			made.add(word.Mul(x, y), halfParts*(i+j))
		}
	}
	return made
}

const halfParts = 2

// halves are a word's lower and upper 128 bits.
func halves(w api.Word) [2]api.Word {
	return [2]api.Word{{w[0], w[1]}, {w[2], w[3]}}
}
