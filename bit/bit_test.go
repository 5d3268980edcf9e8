package bit_test

import (
	"math/big"
	"testing"

	"railhead/api"
	"railhead/bit"
	"railhead/divide"
	"railhead/word"
)

const all = 1<<64 - 1

var (
	none  = api.Word{}
	most  = api.Word{all, all, all, all}
	least = api.Word{0, 0, 0, 1 << 63} // the signed number -2^255
)

// at reads a bit out of the parts themselves, so that no package under test has a say in what is expected.
func at(w api.Word, place int) bool { return w[place/64]>>(place%64)&1 == 1 }

// made is the word whose bits are told one by one.
func made(is func(place int) bool) api.Word {
	w := api.Word{}
	for place := range 256 {
		if is(place) {
			w[place/64] |= 1 << (place % 64)
		}
	}
	return w
}

// signed is a word's signed number: its highest bit counts below 0.
func signed(w api.Word) *big.Int {
	n := new(big.Int)
	for place := range 256 {
		if at(w, place) {
			n.SetBit(n, place, 1)
		}
	}
	if at(w, 255) {
		n.Sub(n, new(big.Int).Lsh(big.NewInt(1), 256))
	}
	return n
}

// mixer answers words of mixed bits, always the same ones.
func mixer() func() api.Word {
	x := uint64(1181783497276652981)
	next := func() uint64 {
		x ^= x >> 12
		x ^= x << 25
		x ^= x >> 27
		return x * 2685821657736338717
	}
	return func() api.Word { return api.Word{next(), next(), next(), next()} }
}

// samples are words whose bits stand at the parts' ends and in between, and mixed ones.
func samples() []api.Word {
	out := []api.Word{none, most, least, {1}, {all}, {0, 1}, {0, 0, 1}, {0, 0, 0, 1}, {1 << 63}, {0, 1 << 63}, {0, 0, 1 << 63}, {1, 0, 0, 1 << 63}, {all, all, all, 1<<63 - 1}, {all - 1, all, all, all}, {all, 0, all, 0}, {0, all, 0, all}}
	for mixed, n := mixer(), 0; n < 12; n++ {
		out = append(out, mixed())
	}
	return out
}

// numbers are those that a shift or a byte may be asked with: all up to a bit more than a word has bits, and others beyond.
func numbers() []api.Word {
	var out []api.Word
	for n := range 260 {
		out = append(out, word.Of(n))
	}
	for _, n := range []int{287, 288, 511, 512, 1 << 16, 1 << 32, 1<<32 + 1, api.MaxInt, api.MaxInt + 1, 1<<63 - 1} {
		out = append(out, word.Of(n))
	}
	// A low part that would do by itself: what stands above it makes it too great.
	return append(out, api.Word{all}, api.Word{0, 1}, api.Word{1, 1}, api.Word{8, 0, 1}, api.Word{30, 0, 0, 1}, api.Word{31, 0, 0, 1 << 63}, least, most, word.Of(-2), word.Of(-8), word.Of(-256))
}

// small is a number up to 300, and 300 for all that are greater.
func small(w api.Word) int {
	if w[1]|w[2]|w[3] != 0 || w[0] > 300 {
		return 300
	}
	return int(w[0])
}

func hold(t *testing.T, name string, got, want api.Word, of ...api.Word) {
	t.Helper()
	if got != want {
		t.Fatalf("%s of %v is %v, not %v", name, of, got, want)
	}
}

// C1

func TestBitByBit(t *testing.T) {
	for _, a := range samples() {
		for _, b := range samples() {
			hold(t, "And", bit.And(a, b), made(func(n int) bool { return at(a, n) && at(b, n) }), a, b)
			hold(t, "Or", bit.Or(a, b), made(func(n int) bool { return at(a, n) || at(b, n) }), a, b)
			hold(t, "Xor", bit.Xor(a, b), made(func(n int) bool { return at(a, n) != at(b, n) }), a, b)
		}
		hold(t, "Not", bit.Not(a), made(func(n int) bool { return !at(a, n) }), a)
	}
}

func TestBitsOfEachPair(t *testing.T) {
	a, b := api.Word{12, 12, 12, 12}, api.Word{10, 10, 10, 10}
	hold(t, "And", bit.And(a, b), api.Word{8, 8, 8, 8})
	hold(t, "Or", bit.Or(a, b), api.Word{14, 14, 14, 14})
	hold(t, "Xor", bit.Xor(a, b), api.Word{6, 6, 6, 6})
	hold(t, "Not", bit.Not(a), api.Word{all - 12, all - 12, all - 12, all - 12})
	hold(t, "Not", bit.Not(none), most)
	hold(t, "Not", bit.Not(most), none)
}

// C2

func TestShifts(t *testing.T) {
	for _, a := range samples() {
		for _, by := range numbers() {
			n := small(by)
			hold(t, "Shl", bit.Shl(by, a), made(func(place int) bool { return place >= n && at(a, place-n) }), by, a)
			hold(t, "Shr", bit.Shr(by, a), made(func(place int) bool { return place+n < 256 && at(a, place+n) }), by, a)
			hold(t, "Sar", bit.Sar(by, a), made(func(place int) bool { return at(a, min(place+n, 255)) }), by, a)
		}
	}
}

func TestShiftsOfOneBit(t *testing.T) {
	for from := range 256 {
		a := made(func(n int) bool { return n == from })
		for to := range 256 {
			want := made(func(n int) bool { return n == to })
			if to >= from {
				hold(t, "Shl", bit.Shl(word.Of(to-from), a), want, a)
			}
			if to <= from {
				hold(t, "Shr", bit.Shr(word.Of(from-to), a), want, a)
			}
		}
	}
}

func TestShiftsAtTheEdges(t *testing.T) {
	for _, by := range []api.Word{word.Of(256), word.Of(257), word.Of(api.MaxInt), word.Of(api.MaxInt + 1), {0, 1}, {1, 0, 0, 1}, least, most} {
		hold(t, "Shl", bit.Shl(by, most), none, by)
		hold(t, "Shr", bit.Shr(by, most), none, by)
		hold(t, "Sar", bit.Sar(by, least), most, by)
		hold(t, "Sar", bit.Sar(by, api.Word{all, all, all, 1<<63 - 1}), none, by)
	}
	hold(t, "Shl", bit.Shl(word.Of(255), most), least)
	hold(t, "Shr", bit.Shr(word.Of(255), most), word.Of(1))
	hold(t, "Sar", bit.Sar(word.Of(255), least), most)
	hold(t, "Sar", bit.Sar(word.Of(254), least), word.Of(-2))
	hold(t, "Sar", bit.Sar(word.Of(1), word.Of(-3)), word.Of(-2)) // the chapter's
	hold(t, "Shl", bit.Shl(word.Of(64), api.Word{1, 2, 3, 4}), api.Word{0, 1, 2, 3})
	hold(t, "Shr", bit.Shr(word.Of(64), api.Word{1, 2, 3, 4}), api.Word{2, 3, 4})
	hold(t, "Shl", bit.Shl(none, most), most)
	hold(t, "Shr", bit.Shr(none, most), most)
	hold(t, "Sar", bit.Sar(none, least), least)
}

// C3

func TestBytesOfWords(t *testing.T) {
	for _, a := range samples() {
		for _, i := range numbers() {
			n := small(i)
			hold(t, "Byte", bit.Byte(i, a), made(func(place int) bool { return n < 32 && place < 8 && at(a, 8*(31-n)+place) }), i, a)
		}
	}
}

func TestBytesAtTheEdges(t *testing.T) {
	a := word.FromBytes("\x80 the bytes of this text, and \x00\xff")
	for i, want := range map[int]int{0: 0x80, 1: ' ', 2: 't', 30: 0, 31: 0xff, 32: 0, 33: 0, 256: 0, -1: 0, -32: 0, 1 << 32: 0} {
		hold(t, "Byte", bit.Byte(word.Of(i), a), word.Of(want), word.Of(i))
	}
	hold(t, "Byte", bit.Byte(api.Word{0, 1}, most), none)
	hold(t, "Byte", bit.Byte(word.Of(31), word.Of(7)), word.Of(7)) // the chapter's
}

func TestSigns(t *testing.T) {
	for _, a := range samples() {
		for _, i := range numbers() {
			sign := min(8*small(i)+7, 255)
			hold(t, "Sign", bit.Sign(i, a), made(func(place int) bool { return at(a, min(place, sign)) }), i, a)
		}
	}
}

func TestSignsAtTheEdges(t *testing.T) {
	for n := -128; n < 128; n++ {
		hold(t, "Sign", bit.Sign(none, word.Of(n&255)), word.Of(n))
		hold(t, "Sign", bit.Sign(none, word.Of(n&255+0x7f00)), word.Of(n))
	}
	hold(t, "Sign", bit.Sign(none, word.Of(255)), most) // the chapter's
	hold(t, "Sign", bit.Sign(word.Of(1), word.Of(255)), word.Of(255))
	hold(t, "Sign", bit.Sign(word.Of(1), word.Of(0x8000)), word.Of(-0x8000))
	highest := api.Word{0, 0, 0, 1 << 55} // the sign of the byte 30
	hold(t, "Sign", bit.Sign(word.Of(30), highest), api.Word{0, 0, 0, 0x1ff << 55})
	hold(t, "Sign", bit.Sign(word.Of(30), least), none)
	for _, i := range []api.Word{word.Of(31), word.Of(32), word.Of(api.MaxInt + 1), {0, 1}, {30, 0, 0, 1}, most} {
		hold(t, "Sign", bit.Sign(i, highest), highest, i)
		hold(t, "Sign", bit.Sign(i, least), least, i)
	}
}

// C4

func TestLessIsOfSignedNumbers(t *testing.T) {
	for _, a := range samples() {
		for _, b := range samples() {
			if got, want := bit.Less(a, b), signed(a).Cmp(signed(b)) < 0; got != want {
				t.Fatalf("Less(%v, %v) is %v", a, b, got)
			}
		}
	}
}

func TestLessInOrder(t *testing.T) {
	greatest := api.Word{all, all, all, 1<<63 - 1}
	ordered := []api.Word{least, {1, 0, 0, 1 << 63}, {0, all, all, all}, word.Of(-2), most, none, word.Of(1), {all}, {0, 1}, {0, 0, 1}, {all, all, 1}, {0, 0, 0, 1}, {all - 1, all, all, 1<<63 - 1}, greatest}
	for i, a := range ordered {
		for j, b := range ordered {
			if bit.Less(a, b) != (i < j) {
				t.Errorf("Less(%v, %v) is %v", a, b, i >= j)
			}
		}
	}
}

// C5

func TestNotTurnsAndAndOr(t *testing.T) {
	for _, a := range samples() {
		hold(t, "Not of Not", bit.Not(bit.Not(a)), a, a)
		for _, b := range samples() {
			hold(t, "And by Not and Or", bit.Not(bit.Or(bit.Not(a), bit.Not(b))), bit.And(a, b), a, b)
			hold(t, "Or by Not and And", bit.Not(bit.And(bit.Not(a), bit.Not(b))), bit.Or(a, b), a, b)
		}
	}
}

func TestShrUndoesShl(t *testing.T) {
	for _, a := range samples() {
		for n := range 256 {
			by := word.Of(n)
			short := made(func(place int) bool { return place < 256-n && at(a, place) })
			hold(t, "Shr of Shl", bit.Shr(by, bit.Shl(by, short)), short, by, short)
			hold(t, "Shr of Shl, where bits are lost,", bit.Shr(by, bit.Shl(by, a)), short, by, a)
		}
	}
}

// A power of 2 that is too great for a word is 0: a product by it is 0, and so is a quotient.
func TestShiftsAreByPowersOfTwo(t *testing.T) {
	for _, by := range numbers() {
		power := divide.Exp(word.Of(2), by)
		for _, a := range samples() {
			hold(t, "Shl", bit.Shl(by, a), word.Mul(a, power), by, a)
			hold(t, "Shr", bit.Shr(by, a), divide.Div(a, power), by, a)
		}
	}
}
