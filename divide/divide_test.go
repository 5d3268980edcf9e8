package divide_test

import (
	"math/big"
	"testing"

	"railhead/api"
	"railhead/divide"
	"railhead/word"
)

const all = 1<<64 - 1

var (
	none  = api.Word{}
	one   = api.Word{1}
	most  = api.Word{all, all, all, all}
	least = api.Word{0, 0, 0, 1 << 63} // the signed number -2^255
)

// top is 2^256.
func top() *big.Int { return new(big.Int).Lsh(big.NewInt(1), 256) }

// unsigned reads the parts themselves, so that no package under test has a say in what is expected.
func unsigned(w api.Word) *big.Int {
	n := new(big.Int)
	for i := range w {
		n.Add(n, new(big.Int).Lsh(new(big.Int).SetUint64(w[i]), uint(64*i)))
	}
	return n
}

// signed is the number, and 2^256 less from 2^255 on.
func signed(w api.Word) *big.Int {
	n := unsigned(w)
	if n.BitLen() == 256 {
		n.Sub(n, top())
	}
	return n
}

// wordOf is the word of a number modulo 2^256.
func wordOf(n *big.Int) api.Word {
	var bytes [32]byte
	new(big.Int).Mod(n, top()).FillBytes(bytes[:])
	var w api.Word
	for i, b := range bytes {
		w[3-i/8] = w[3-i/8]<<8 | uint64(b)
	}
	return w
}

// samples are words around each length that a word may have, both signs of them, and mixed ones; always the same.
func samples() []api.Word {
	out := []api.Word{none, most, least, {0, 0, 0, 1<<63 + 1}, {all, all, all, 1<<63 - 1}, {all - 1, all, all, all}, {0, 1, 0, 1}, {all, 0, all, 0}, {0, 0, all, all}, {1, 0, 0, 1 << 63}}
	x := uint64(2463534242)
	next := func() uint64 {
		x ^= x << 13
		x ^= x >> 7
		x ^= x << 17
		return x
	}
	for length := 1; length <= 256; length += 1 + length/6 {
		power := new(big.Int).Lsh(big.NewInt(1), uint(length))
		mix := new(big.Int).Mod(unsigned(api.Word{next(), next(), next(), next()}), power)
		less := new(big.Int).Sub(power, big.NewInt(1))
		out = append(out, wordOf(power), wordOf(less), wordOf(mix), wordOf(new(big.Int).Neg(mix)))
	}
	for n := range 20 {
		out = append(out, word.Of(n), word.Of(-n), api.Word{next(), next(), next(), next()})
	}
	return out
}

// fewer are enough for all triples.
func fewer() []api.Word {
	var out []api.Word
	for i, w := range samples() {
		if i < 10 || i%5 == 0 {
			out = append(out, w)
		}
	}
	return out
}

// want is the word that a function of math/big makes of two numbers, the second of which is not 0; else 0.
func want(make func(z, x, y *big.Int) *big.Int, x, y *big.Int) api.Word {
	if y.Sign() == 0 {
		return none
	}
	return wordOf(make(new(big.Int), x, y))
}

func hold(t *testing.T, name string, got, want api.Word, of ...api.Word) {
	t.Helper()
	if got != want {
		t.Fatalf("%s of %v is %v, not %v", name, of, got, want)
	}
}

// B1

func TestQuotientsAndRemainders(t *testing.T) {
	for _, a := range samples() {
		for _, b := range samples() {
			x, y := unsigned(a), unsigned(b)
			hold(t, "Div", divide.Div(a, b), want((*big.Int).Div, x, y), a, b)
			hold(t, "Mod", divide.Mod(a, b), want((*big.Int).Mod, x, y), a, b)
		}
	}
}

func TestDivisionByNought(t *testing.T) {
	for _, a := range samples() {
		hold(t, "Div", divide.Div(a, none), none, a)
		hold(t, "Mod", divide.Mod(a, none), none, a)
		hold(t, "Sdiv", divide.Sdiv(a, none), none, a)
		hold(t, "Smod", divide.Smod(a, none), none, a)
		hold(t, "Addmod", divide.Addmod(a, most, none), none, a)
		hold(t, "Mulmod", divide.Mulmod(a, most, none), none, a)
	}
}

func TestQuotientsAtTheEdges(t *testing.T) {
	hold(t, "Div", divide.Div(most, one), most)
	hold(t, "Div", divide.Div(most, most), one)
	hold(t, "Div", divide.Div(word.Of(-2), most), none)
	hold(t, "Mod", divide.Mod(word.Of(-2), most), word.Of(-2))
	hold(t, "Div", divide.Div(most, least), one)
	hold(t, "Mod", divide.Mod(most, least), api.Word{all, all, all, 1<<63 - 1})
	hold(t, "Div", divide.Div(none, most), none)
	hold(t, "Div", divide.Div(api.Word{0, 0, 0, 1}, api.Word{all, all, all}), one)
	hold(t, "Mod", divide.Mod(api.Word{0, 0, 0, 1}, api.Word{all, all, all}), one)
}

// B2

func TestSignedQuotientsAndRemainders(t *testing.T) {
	for _, a := range samples() {
		for _, b := range samples() {
			x, y := signed(a), signed(b)
			hold(t, "Sdiv", divide.Sdiv(a, b), want((*big.Int).Quo, x, y), a, b)
			hold(t, "Smod", divide.Smod(a, b), want((*big.Int).Rem, x, y), a, b)
		}
	}
}

func TestSignsOfQuotientsAndRemainders(t *testing.T) {
	for _, x := range []struct{ a, b, quotient, rest int }{
		{7, 2, 3, 1}, {-7, 2, -3, -1}, {7, -2, -3, 1}, {-7, -2, 3, -1},
		{6, -3, -2, 0}, {-6, 3, -2, 0}, {-6, -3, 2, 0}, {1, -2, 0, 1}, {-1, 2, 0, -1}, {-1, -1, 1, 0}, {0, -5, 0, 0},
	} {
		a, b := word.Of(x.a), word.Of(x.b)
		hold(t, "Sdiv", divide.Sdiv(a, b), word.Of(x.quotient), a, b)
		hold(t, "Smod", divide.Smod(a, b), word.Of(x.rest), a, b)
	}
	hold(t, "Sdiv of the least one by -1", divide.Sdiv(least, most), least)
	hold(t, "Smod of the least one by -1", divide.Smod(least, most), none)
	hold(t, "Sdiv of the least one by 1", divide.Sdiv(least, one), least)
	hold(t, "Sdiv by the least one", divide.Sdiv(api.Word{1, 0, 0, 1 << 63}, least), none)
	hold(t, "Smod by the least one", divide.Smod(api.Word{1, 0, 0, 1 << 63}, least), api.Word{1, 0, 0, 1 << 63})
}

// B3

func TestRemaindersOfSumsAndProducts(t *testing.T) {
	for _, a := range fewer() {
		for _, b := range fewer() {
			sum := new(big.Int).Add(unsigned(a), unsigned(b))
			product := new(big.Int).Mul(unsigned(a), unsigned(b))
			for _, n := range fewer() {
				hold(t, "Addmod", divide.Addmod(a, b, n), want((*big.Int).Mod, sum, unsigned(n)), a, b, n)
				hold(t, "Mulmod", divide.Mulmod(a, b, n), want((*big.Int).Mod, product, unsigned(n)), a, b, n)
			}
		}
	}
}

func TestSumsAndProductsAreNotCut(t *testing.T) {
	hold(t, "Addmod", divide.Addmod(most, one, most), one)
	hold(t, "Addmod", divide.Addmod(most, one, word.Of(7)), word.Of(2)) // 2^256 modulo 7
	hold(t, "Addmod", divide.Addmod(most, most, word.Of(-2)), word.Of(2))
	hold(t, "Mulmod", divide.Mulmod(least, word.Of(4), word.Of(7)), word.Of(4)) // 2^257 modulo 7
	hold(t, "Mulmod", divide.Mulmod(most, most, word.Of(-2)), one)
	hold(t, "Mulmod", divide.Mulmod(api.Word{0, 0, 1}, api.Word{0, 0, 1}, word.Of(-3)), word.Of(3))
	hold(t, "Mulmod", divide.Mulmod(most, most, one), none)
	hold(t, "Addmod", divide.Addmod(most, most, one), none)
}

// B4

func TestPowers(t *testing.T) {
	for _, a := range samples() {
		for _, b := range fewer() {
			hold(t, "Exp", divide.Exp(a, b), wordOf(new(big.Int).Exp(unsigned(a), unsigned(b), top())), a, b)
		}
	}
	power := big.NewInt(1)
	for n := range 300 {
		hold(t, "Exp", divide.Exp(word.Of(3), word.Of(n)), wordOf(power), word.Of(n))
		power.Mul(power, big.NewInt(3))
	}
}

func TestPowersAtTheEdges(t *testing.T) {
	for _, w := range samples() {
		hold(t, "Exp", divide.Exp(w, none), one, w)
		hold(t, "Exp", divide.Exp(w, one), w, w)
		hold(t, "Exp", divide.Exp(one, w), one, w)
		if w != none {
			hold(t, "Exp", divide.Exp(none, w), none, w)
		}
	}
	hold(t, "Exp", divide.Exp(word.Of(2), word.Of(255)), least)
	hold(t, "Exp", divide.Exp(word.Of(2), word.Of(256)), none)
	hold(t, "Exp", divide.Exp(word.Of(2), api.Word{0, 1}), none)
	hold(t, "Exp", divide.Exp(most, most), most)
	hold(t, "Exp", divide.Exp(most, word.Of(-2)), one)
}

// B5

func TestQuotientTimesDivisorAndRemainder(t *testing.T) {
	for _, a := range samples() {
		for _, b := range samples() {
			if b == none {
				continue
			}
			rest, back := divide.Mod(a, b), divide.Smod(a, b)
			hold(t, "Div times b, and Mod,", word.Add(word.Mul(divide.Div(a, b), b), rest), a, a, b)
			hold(t, "Sdiv times b, and Smod,", word.Add(word.Mul(divide.Sdiv(a, b), b), back), a, a, b)
			if word.Cmp(rest, b) >= 0 || signed(back).CmpAbs(signed(b)) >= 0 || back != none && signed(back).Sign() != signed(a).Sign() {
				t.Fatalf("Mod of %v and %v is %v, Smod %v", a, b, rest, back)
			}
		}
	}
}
