package compute_test

import (
	"math/big"
	"slices"
	"testing"

	"railhead/api"
	"railhead/compute"
)

// What follows says what the chapter says, with numbers that have no end.

// numberOf is a word's number.
func numberOf(w api.Word) *big.Int {
	n := new(big.Int)
	for place := 3; place >= 0; place-- {
		n.Lsh(n, 64)
		n.Add(n, new(big.Int).SetUint64(w[place]))
	}
	return n
}

// wordOf is the word of a number, modulo 2^256.
func wordOf(n *big.Int) api.Word {
	rest := new(big.Int).Mod(n, power(256))
	w := api.Word{}
	for place := range w {
		w[place] = new(big.Int).Mod(rest, power(64)).Uint64()
		rest.Rsh(rest, 64)
	}
	return w
}

// power is the n-th power of two.
func power(n uint) *big.Int { return new(big.Int).Lsh(big.NewInt(1), n) }

// signed is a number, and 2^256 less, if it is 2^255 or more.
func signed(n *big.Int) *big.Int {
	if n.Cmp(power(255)) >= 0 {
		return new(big.Int).Sub(n, power(256))
	}
	return n
}

// so is 1 of what is so, else 0.
func so(is bool) *big.Int {
	if is {
		return big.NewInt(1)
	}
	return new(big.Int)
}

// unlessNought is 0, if what is divided by is 0.
func unlessNought(n *big.Int, made func() *big.Int) *big.Int {
	if n.Sign() == 0 {
		return n
	}
	return made()
}

// shift is by how many bits something is moved: 256 are as many as any more.
func shift(by *big.Int) uint {
	if by.Cmp(big.NewInt(256)) > 0 {
		return 256
	}
	return uint(by.Uint64())
}

// extended is what SIGNEXTEND promises.
func extended(i, n *big.Int) *big.Int {
	if i.Cmp(big.NewInt(30)) > 0 {
		return n
	}
	bits := 8*uint(i.Uint64()) + 8
	low := new(big.Int).Mod(n, power(bits))
	if low.Cmp(power(bits-1)) >= 0 {
		low.Sub(low, power(bits))
	}
	return low
}

// byteOf is what BYTE promises.
func byteOf(i, n *big.Int) *big.Int {
	if i.Cmp(big.NewInt(31)) > 0 {
		return new(big.Int)
	}
	up := new(big.Int).Rsh(n, 8*(31-uint(i.Uint64())))
	return up.Mod(up, power(8))
}

// made is what the chapter's table has of a, b and c, which are numbers; nothing of POP.
func made(op byte, a, b, c *big.Int) *big.Int {
	z := new(big.Int)
	switch op {
	case 0x01:
		return z.Add(a, b)
	case 0x02:
		return z.Mul(a, b)
	case 0x03:
		return z.Sub(a, b)
	case 0x04:
		return unlessNought(b, func() *big.Int { return z.Div(a, b) })
	case 0x05:
		return unlessNought(b, func() *big.Int { return z.Quo(signed(a), signed(b)) })
	case 0x06:
		return unlessNought(b, func() *big.Int { return z.Mod(a, b) })
	case 0x07:
		return unlessNought(b, func() *big.Int { return z.Rem(signed(a), signed(b)) })
	case 0x08:
		return unlessNought(c, func() *big.Int { return z.Mod(z.Add(a, b), c) })
	case 0x09:
		return unlessNought(c, func() *big.Int { return z.Mod(z.Mul(a, b), c) })
	case 0x0a:
		return z.Exp(a, b, power(256))
	case 0x0b:
		return extended(a, b)
	case 0x10:
		return so(a.Cmp(b) < 0)
	case 0x11:
		return so(a.Cmp(b) > 0)
	case 0x12:
		return so(signed(a).Cmp(signed(b)) < 0)
	case 0x13:
		return so(signed(a).Cmp(signed(b)) > 0)
	case 0x14:
		return so(a.Cmp(b) == 0)
	case 0x15:
		return so(a.Sign() == 0)
	case 0x16:
		return z.And(a, b)
	case 0x17:
		return z.Or(a, b)
	case 0x18:
		return z.Xor(a, b)
	case 0x19:
		return z.Not(a)
	case 0x1a:
		return byteOf(a, b)
	case 0x1b:
		return z.Lsh(b, shift(a))
	case 0x1c:
		return z.Rsh(b, shift(a))
	case 0x1d:
		return z.Rsh(signed(b), shift(a))
	}
	return nil
}

// listed tells whether the first promise lists an opcode.
func listed(op byte) bool {
	for _, x := range [][2]byte{{0x01, 0x0b}, {0x10, 0x1d}, {0x50, 0x50}, {0x80, 0x9f}} {
		if op >= x[0] && op <= x[1] {
			return true
		}
	}
	return false
}

// popsOf is how many words an opcode pops that is listed.
func popsOf(op byte) int {
	switch op {
	case 0x08, 0x09:
		return 3
	case 0x15, 0x19, 0x50:
		return 1
	}
	switch op & 0xf0 {
	case 0x80:
		return int(op&0x0f) + 1
	case 0x90:
		return int(op&0x0f) + 2
	}
	return 2
}

// pushesOf is how many words an opcode pushes that is listed.
func pushesOf(op byte) int {
	switch op & 0xf0 {
	case 0x50:
		return 0
	case 0x80:
		return popsOf(op) + 1
	case 0x90:
		return popsOf(op)
	}
	return 1
}

// done is what Do promises.
func done(op byte, s []api.Word) ([]api.Word, api.Errno) {
	switch {
	case !listed(op):
		return s, api.ErrOp
	case len(s) > 1024:
		return s, api.ErrArg
	case len(s) < popsOf(op):
		return s, api.ErrUnder
	case len(s)-popsOf(op)+pushesOf(op) > 1024:
		return s, api.ErrOver
	}
	out := slices.Clone(s)
	nth := int(op & 0x0f)
	switch op & 0xf0 {
	case 0x80:
		return append(out, s[len(s)-1-nth]), api.OK
	case 0x90:
		out[len(s)-1], out[len(s)-2-nth] = s[len(s)-2-nth], s[len(s)-1]
		return out, api.OK
	}
	abc := [3]*big.Int{}
	for i := range popsOf(op) {
		abc[i] = numberOf(s[len(s)-1-i])
	}
	out = out[:len(s)-popsOf(op)]
	if n := made(op, abc[0], abc[1], abc[2]); n != nil {
		out = append(out, wordOf(n))
	}
	return out, api.OK
}

// few are as many words as can be read.
func few(l []api.Word) []api.Word { return l[max(0, len(l)-5):] }

// expect holds what Do tells against the chapter.
func expect(t *testing.T, op byte, s []api.Word) ([]api.Word, api.Errno) {
	t.Helper()
	got, e := compute.Do(op, s)
	want, f := done(op, s)
	if !slices.Equal(got, want) || e != f {
		t.Fatalf("%02x of %x (%d words):\n%x (%d words), %d, not\n%x (%d words), %d", op, few(s), len(s), few(got), len(got), e, few(want), len(want), f)
	}
	return got, e
}
