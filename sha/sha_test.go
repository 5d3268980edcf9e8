package sha_test

import (
	"crypto/sha256"
	"encoding/hex"
	"math"
	"strings"
	"testing"

	"railhead/api"
	"railhead/sha"
	"railhead/word"
)

// text is so many mixed bytes, always the same ones.
func text(many int) string {
	x := uint64(7046029254386353131)
	out := make([]byte, many)
	for i := range out {
		x ^= x >> 12
		x ^= x << 25
		x ^= x >> 27
		out[i] = byte(x * 2685821657736338717 >> 32)
	}
	return string(out)
}

// library is the same hash, by the library.
func library(s string) string {
	sum := sha256.Sum256([]byte(s))
	return string(sum[:])
}

// lengths are those about the ends of blocks.
func lengths() []int {
	var out []int
	for n := range 300 {
		out = append(out, n)
	}
	for _, blocks := range []int{8, 16, 100, 1024} {
		for n := -10; n < 11; n++ {
			out = append(out, 64*blocks+n)
		}
	}
	return append(out, 8191, 8192, 1<<16-1, 1<<16, 1<<16+1)
}

func holdSum(t *testing.T, s, want string) {
	t.Helper()
	if got, e := sha.Sum(s); got != want || e != api.OK {
		t.Fatalf("Sum of %d bytes is %x, %d, not %x", len(s), got, e, want)
	}
}

// E1

func TestSumsThatAreKnown(t *testing.T) {
	for s, want := range map[string]string{
		"":    "e3b0c44298fc1c149afbf4c8996fb92427ae41e4649b934ca495991b7852b855", // the chapter's
		"abc": "ba7816bf8f01cfea414140de5dae2223b00361a396177a9cb410ff61f20015ad",
		"The quick brown fox jumps over the lazy dog":                                                                      "d7a8fbb307d7809469ca9abcb0082e4f8d5651e46d3cdb762d02d0bf37c9e592",
		"abcdbcdecdefdefgefghfghighijhijkijkljklmklmnlmnomnopnopq":                                                         "248d6a61d20638b8e5c026930c3e6039a33ce45964ff2167f6ecedd419db06c1",
		"abcdefghbcdefghicdefghijdefghijkefghijklfghijklmghijklmnhijklmnoijklmnopjklmnopqklmnopqrlmnopqrsmnopqrstnopqrstu": "cf5b16a778af8380036ce59e7b0492370b249b11e8f07a51afac45037afee9d1",
		strings.Repeat("a", 1000000):                                                                                       "cdc76e5c9914fb9281a1c7e284d73e67f1809a48a497200e046d39ccc7112cd0",
	} {
		bytes, _ := hex.DecodeString(want)
		holdSum(t, s, string(bytes))
	}
}

func TestSumIsTheChapters(t *testing.T) {
	for _, n := range []int{0, 1, 3, 4, 5, 54, 55, 56, 57, 63, 64, 65, 118, 119, 120, 121, 127, 128, 129, 191, 192, 500} {
		holdSum(t, text(n), hash(text(n)))
		holdSum(t, strings.Repeat("\x00", n), hash(strings.Repeat("\x00", n)))
		holdSum(t, strings.Repeat("\xff", n), hash(strings.Repeat("\xff", n)))
	}
}

func TestSumIsTheLibrarys(t *testing.T) {
	for _, n := range lengths() {
		s := text(n)
		holdSum(t, s, library(s))
	}
}

// Each bit of a text counts, wherever it stands.
func TestSumOfOneBit(t *testing.T) {
	for place := range 8 * 130 {
		s := make([]byte, 130)
		s[place/8] = 1 << (place % 8)
		holdSum(t, string(s), library(string(s)))
	}
}

// What looks like an end, or like a size, is of the text all the same.
func TestSumOfWhatLooksPadded(t *testing.T) {
	seen := map[string]string{}
	for _, s := range []string{"", "\x80", "\x00", "\x80\x00", whole(""), whole("abc"), whole("abc") + "\x80", "abc\x80", "abc\x00", strings.Repeat("\x00", 55), strings.Repeat("\x00", 56), strings.Repeat("\x00", 64)} {
		got, _ := sha.Sum(s)
		if other, is := seen[got]; is {
			t.Errorf("Sums of %x and %x are the same", s, other)
		}
		seen[got] = s
		holdSum(t, s, library(s))
	}
}

func TestSumUpToTheLimit(t *testing.T) {
	s := text(api.MaxBytes + 1)
	for _, n := range []int{api.MaxBytes - 9, api.MaxBytes - 8, api.MaxBytes - 1, api.MaxBytes} {
		holdSum(t, s[:n], library(s[:n]))
	}
	for _, long := range []string{s, s + "a", strings.Repeat("\x00", api.MaxBytes+64), text(1 << 22)} {
		if got, e := sha.Sum(long); got != "" || e != api.ErrLong {
			t.Errorf("Sum of %d bytes is %x, %d, not an error", len(long), got, e)
		}
	}
}

// E2

var shaAt, identityAt = word.Of(2), word.Of(4)

// elsewhere are places at which there is nothing, of which some have a low part that would do by itself.
func elsewhere() []api.Word {
	out := []api.Word{{2, 1}, {4, 1}, {2, 0, 1}, {4, 0, 0, 1}, {2, 0, 0, 1 << 63}, {0, 2}, {0, 4}, {0, 0, 0, 4}, word.Of(-1), word.Of(-2), word.Of(-4), word.Of(-5), word.Of(1<<32 + 2), word.Of(1<<32 + 4)}
	for n := range 300 {
		if n != 2 && n != 4 {
			out = append(out, word.Of(n))
		}
	}
	return out
}

func holdCost(t *testing.T, at api.Word, many, want int, is bool) {
	t.Helper()
	if n, ok := sha.Cost(at, many); n != want || ok != is {
		t.Fatalf("Cost(%v, %d) is %d, %v, not %d, %v", at, many, n, ok, want, is)
	}
}

func TestCostByPieces(t *testing.T) {
	pieces := 0
	for many := range 5000 {
		if many%32 == 1 {
			pieces++
		}
		holdCost(t, shaAt, many, 60+12*pieces, true)
		holdCost(t, identityAt, many, 15+3*pieces, true)
	}
}

func TestCostAtTheEdges(t *testing.T) {
	for many, want := range map[int][2]int{0: {60, 15}, 1: {72, 18}, 31: {72, 18}, 32: {72, 18}, 33: {84, 21}, 64: {84, 21}, 65: {96, 24}, 1<<20 - 32: {393264, 98316}, 1<<20 - 31: {393276, 98319}, 1<<20 - 1: {393276, 98319}, 1 << 20: {393276, 98319}} {
		holdCost(t, shaAt, many, want[0], true)
		holdCost(t, identityAt, many, want[1], true)
	}
	for _, many := range []int{-1, -2, -31, -32, -33, 1<<20 + 1, 1<<20 + 32, 1 << 32, 1<<32 + 5, -1 << 32, math.MaxInt, math.MaxInt - 31, math.MinInt} {
		holdCost(t, shaAt, many, 0, false)
		holdCost(t, identityAt, many, 0, false)
	}
}

func TestCostElsewhere(t *testing.T) {
	for _, at := range elsewhere() {
		for _, many := range []int{-1, 0, 1, 32, 1 << 20, 1<<20 + 1} {
			holdCost(t, at, many, 0, false)
		}
	}
}

// E3

func holdRun(t *testing.T, at api.Word, s string, gas int, want string, left int, is bool) {
	t.Helper()
	if out, n, ok := sha.Run(at, s, gas); out != want || n != left || ok != is {
		t.Fatalf("Run(%v, %d bytes, %d) is %x, %d, %v, not %x, %d, %v", at, len(s), gas, out, n, ok, want, left, is)
	}
}

func TestRunLeavesWhatItDoesNotCost(t *testing.T) {
	for _, n := range []int{0, 1, 31, 32, 33, 63, 64, 65, 1000, 24576} {
		s := text(n)
		pieces := (n + 31) / 32
		for _, left := range []int{0, 1, 2, 500, 2000000, math.MaxInt - 100000} {
			holdRun(t, shaAt, s, 60+12*pieces+left, library(s), left, true)
			holdRun(t, identityAt, s, 15+3*pieces+left, s, left, true)
		}
		for _, less := range []int{1, 2, 15 + 3*pieces, 100000, math.MaxInt} {
			holdRun(t, shaAt, s, 60+12*pieces-less, "", 0, false)
			holdRun(t, identityAt, s, 15+3*pieces-less, "", 0, false)
		}
		for _, gas := range []int{0, -1, math.MinInt, math.MinInt + 1} {
			holdRun(t, shaAt, s, gas, "", 0, false)
			holdRun(t, identityAt, s, gas, "", 0, false)
		}
	}
}

func TestRunUpToTheLimit(t *testing.T) {
	s := text(api.MaxBytes + 1)
	most := s[:api.MaxBytes]
	holdRun(t, shaAt, most, 393276, library(most), 0, true)
	holdRun(t, shaAt, most, 393275, "", 0, false)
	holdRun(t, identityAt, most, 98319, most, 0, true)
	holdRun(t, identityAt, most, 98318, "", 0, false)
	holdRun(t, shaAt, s, math.MaxInt, "", 0, false)
	holdRun(t, identityAt, s, math.MaxInt, "", 0, false)
}

func TestRunElsewhere(t *testing.T) {
	for _, at := range elsewhere() {
		for _, s := range []string{"", "abc", text(100)} {
			for _, gas := range []int{0, 1000, math.MaxInt, -1} {
				holdRun(t, at, s, gas, "", 0, false)
			}
		}
	}
}

// E4

func TestWhatIsLeftAndTheCostAreTheGas(t *testing.T) {
	for _, at := range []api.Word{shaAt, identityAt, word.Of(3)} {
		for _, n := range []int{0, 5, 32, 33, 300, api.MaxBytes, api.MaxBytes + 1} {
			s := text(n)
			cost, is := sha.Cost(at, n)
			for gas := cost - 2; gas < cost+3; gas++ {
				out, left, went := sha.Run(at, s, gas)
				if went != (is && gas >= cost) {
					t.Fatalf("Run(%v, %d bytes, %d), which costs %d, %v, tells %v", at, n, gas, cost, is, went)
				}
				if went && left+cost != gas || !went && (out != "" || left != 0) {
					t.Fatalf("Run(%v, %d bytes, %d), which costs %d, leaves %d and %d bytes", at, n, gas, cost, left, len(out))
				}
			}
		}
	}
}

func TestIdentityChangesNothing(t *testing.T) {
	for _, s := range []string{"", "\x00", "\x00\x00\x00", "abc", "\xff\x80 no text of any kind \xc0", text(777), string(make([]byte, 100))} {
		out, _, is := sha.Run(identityAt, s, 1000)
		if out != s || !is {
			t.Errorf("of %x is made %x, %v", s, out, is)
		}
	}
}

func TestTheSameForTheSame(t *testing.T) {
	s := text(1000)
	first, _ := sha.Sum(s)
	made, left, _ := sha.Run(shaAt, s, 5000)
	sha.Sum("another text")
	sha.Run(shaAt, "and one more", 100)
	if s != text(1000) {
		t.Error("what was handed in is changed")
	}
	again, _ := sha.Sum(text(1000))
	madeAgain, leftAgain, _ := sha.Run(shaAt, text(1000), 5000)
	if first != again || made != first || made != madeAgain || left != leftAgain {
		t.Error("it hangs on more than the arguments")
	}
}
