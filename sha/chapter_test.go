package sha_test

import (
	"math/big"
)

// These do a hash just as the chapter tells it, so that what is expected leans on nothing of the package: H and K are reckoned from roots, bits are moved by shifts.

// behindThePoint are the first 32 bits behind the point of n's root of that power: root(n * 2^(32*power)), modulo 2^32.
func behindThePoint(n int64, power uint) uint32 {
	of := new(big.Int).Lsh(big.NewInt(n), 32*power)
	root := new(big.Int)
	for place := 40; place >= 0; place-- {
		root.SetBit(root, place, 1)
		if new(big.Int).Exp(root, big.NewInt(int64(power)), nil).Cmp(of) > 0 {
			root.SetBit(root, place, 0)
		}
	}
	return uint32(root.Uint64())
}

// roots are those of the first primes.
func roots(many int, power uint) []uint32 {
	var out []uint32
	for n := int64(2); len(out) < many; n++ {
		if big.NewInt(n).ProbablyPrime(10) {
			out = append(out, behindThePoint(n, power))
		}
	}
	return out
}

func turned(x uint32, n int) uint32 { return x>>n | x<<(32-n) }

// whole is the text with all that stands behind it, put there byte by byte.
func whole(s string) string {
	out := []byte(s)
	out = append(out, 128)
	for (len(out)+8)%64 != 0 {
		out = append(out, 0)
	}
	return string(out) + number(uint64(len(s))*8, 8)
}

// number is n in so many bytes, the highest one first.
func number(n uint64, many int) string {
	out := make([]byte, many)
	for i := range out {
		out[many-1-i] = byte(n)
		n /= 256
	}
	return string(out)
}

// words are those of 64 bytes.
func words(block string) []uint32 {
	var w []uint32
	for i := range 16 {
		n := uint32(0)
		for j := range 4 {
			n = n*256 + uint32(block[4*i+j])
		}
		w = append(w, n)
	}
	for i := 16; i < 64; i++ {
		x, y := w[i-15], w[i-2]
		s0 := turned(x, 7) ^ turned(x, 18) ^ x>>3
		s1 := turned(y, 17) ^ turned(y, 19) ^ y>>10
		w = append(w, w[i-16]+w[i-7]+s0+s1)
	}
	return w
}

// hash is the chapter's Sum, of any length.
func hash(s string) string {
	H, K := roots(8, 2), roots(64, 3)
	for rest := whole(s); rest != ""; rest = rest[64:] {
		w := words(rest[:64])
		a, b, c, d, e, f, g, h := H[0], H[1], H[2], H[3], H[4], H[5], H[6], H[7]
		for i := range 64 {
			t := h + (turned(e, 6) ^ turned(e, 11) ^ turned(e, 25)) + ((e & f) ^ (^e & g)) + K[i] + w[i]
			u := (turned(a, 2) ^ turned(a, 13) ^ turned(a, 22)) + ((a & b) ^ (a & c) ^ (b & c))
			h, g, f, e, d, c, b, a = g, f, e, d+t, c, b, a, t+u
		}
		for i, n := range []uint32{a, b, c, d, e, f, g, h} {
			H[i] += n
		}
	}
	out := ""
	for _, n := range H {
		out += number(uint64(n), 4)
	}
	return out
}
