package sha

import "math/bits"

// rounds is how many there are of a block, each with a word of its own.
const rounds = 64

// letters are the numbers a to h, or the eight H to which they are added.
type letters [8]uint32

// firsts are the H at first: of the square roots of the primes 2 to 19.
var firsts = letters{0x6a09e667, 0xbb67ae85, 0x3c6ef372, 0xa54ff53a, 0x510e527f, 0x9b05688c, 0x1f83d9ab, 0x5be0cd19}

// constants are the K of the rounds 0 to 63: of the cube roots of the primes 2 to 311.
var constants = [rounds]uint32{
	0x428a2f98, 0x71374491, 0xb5c0fbcf, 0xe9b5dba5, 0x3956c25b, 0x59f111f1, 0x923f82a4, 0xab1c5ed5,
	0xd807aa98, 0x12835b01, 0x243185be, 0x550c7dc3, 0x72be5d74, 0x80deb1fe, 0x9bdc06a7, 0xc19bf174,
	0xe49b69c1, 0xefbe4786, 0x0fc19dc6, 0x240ca1cc, 0x2de92c6f, 0x4a7484aa, 0x5cb0a9dc, 0x76f988da,
	0x983e5152, 0xa831c66d, 0xb00327c8, 0xbf597fc7, 0xc6e00bf3, 0xd5a79147, 0x06ca6351, 0x14292967,
	0x27b70a85, 0x2e1b2138, 0x4d2c6dfc, 0x53380d13, 0x650a7354, 0x766a0abb, 0x81c2c92e, 0x92722c85,
	0xa2bfe8a1, 0xa81a664b, 0xc24b8b70, 0xc76c51a3, 0xd192e819, 0xd6990624, 0xf40e3585, 0x106aa070,
	0x19a4c116, 0x1e376c08, 0x2748774c, 0x34b0bcb5, 0x391c0cb3, 0x4ed8aa4a, 0x5b9cca4f, 0x682e6ff3,
	0x748f82ee, 0x78a5636f, 0x84c87814, 0x8cc70208, 0x90befffa, 0xa4506ceb, 0xbef9a3f7, 0xc67178f2,
}

// schedule is a block's words: those that it has, and those that are made of them.
func schedule(block []byte) [rounds]uint32 {
	var words [rounds]uint32
	for i, b := range block {
		words[i/numberSize] = words[i/numberSize]<<byteBits | uint32(b)
	}
	for i := blockBytes / numberSize; i < rounds; i++ {
		x, y := words[i-15], words[i-2]
		s0 := turned(x, 7) ^ turned(x, 18) ^ x>>3
		s1 := turned(y, 17) ^ turned(y, 19) ^ y>>10
		words[i] = words[i-16] + words[i-7] + s0 + s1
	}
	return words
}

// with is each H behind a block of such words.
func (h letters) with(words [rounds]uint32) letters {
	now := h
	for i, constant := range constants {
		now = now.next(constant + words[i])
	}
	for i, letter := range now {
		h[i] += letter
	}
	return h
}

// next are the letters behind a round, which adds its constant and its word.
func (l letters) next(added uint32) letters {
	a, b, c, d, e, f, g, h := l[0], l[1], l[2], l[3], l[4], l[5], l[6], l[7]
	t := h + (turned(e, 6) ^ turned(e, 11) ^ turned(e, 25)) + (e&f ^ ^e&g) + added
	u := (turned(a, 2) ^ turned(a, 13) ^ turned(a, 22)) + (a&b ^ a&c ^ b&c)
	return letters{t + u, a, b, c, d + t, e, f, g}
}

// text is the letters' bytes, of each the highest one first.
func (l letters) text() string {
	out := make([]byte, 0, len(l)*numberSize)
	for _, n := range l {
		out = append(out, byte(n>>24), byte(n>>16), byte(n>>8), byte(n))
	}
	return string(out)
}

// turned is a number whose bits stand so many places lower; what falls out comes in above.
func turned(n uint32, down int) uint32 { return bits.RotateLeft32(n, -down) }
