package memory_test

import (
	"math"
	"strings"
	"testing"
	"unsafe"

	"railhead/api"
	"railhead/memory"
	"railhead/word"
)

const most = 1 << 20 // bytes that there may be

// text is so many mixed bytes, of which none is 0, always the same ones.
func text(many int) string {
	x := uint64(7046029254386353131)
	out := make([]byte, many)
	for i := range out {
		out[i] = max(1, byte(next(&x)))
	}
	return string(out)
}

// next is the next one of mixed numbers, which are always the same.
func next(x *uint64) int {
	*x ^= *x >> 12
	*x ^= *x << 25
	*x ^= *x >> 27
	return int(*x * 2685821657736338717 >> 33)
}

// above is 2^bits, and so much more.
func above(bits uint, more int) api.Word {
	power := api.Word{}
	power[bits/64] = 1 << (bits % 64)
	return word.Add(power, word.Of(more))
}

// greatNumbers are those at which something might begin anew, and those about them.
func greatNumbers() []int {
	out := []int{math.MinInt, math.MinInt + 1, math.MinInt + 31, math.MinInt + 32, math.MaxInt, math.MaxInt - 1, math.MaxInt - 31, math.MaxInt - 32}
	for _, bits := range []int{20, 21, 25, 31, 32, 33, 58, 59, 60, 62} {
		for more := -1; more <= 1; more++ {
			out = append(out, 1<<bits+more, -(1<<bits + more))
		}
	}
	return out
}

// smallNumbers are those from one to another, which is one of them.
func smallNumbers(from, to int) []int {
	var out []int
	for n := from; n <= to; n++ {
		out = append(out, n)
	}
	return out
}

// wordsAbout are those of numbers of all sizes: small ones, those about the edges of words, of memory and of parts, and the greatest ones.
func wordsAbout() []api.Word {
	var out []api.Word
	for _, n := range []int{0, 1, 2, 30, 31, 32, 33, 63, 64, 65, 1000, most / 2, most - 64, most - 63, most - 33, most - 32, most - 31, most - 1, most, most + 1, most + 31, most + 32, most + 33} {
		out = append(out, word.Of(n), word.Of(-n))
	}
	for _, bits := range []uint{21, 31, 32, 62, 63, 64, 65, 84, 127, 128, 191, 192, 212, 255} {
		out = append(out, above(bits, -1), above(bits, 0), above(bits, 1), above(bits, 32), above(bits, most))
	}
	return out
}

// mixedWord is a word of which no byte is another one.
func mixedWord() api.Word {
	bytes := make([]byte, 32)
	for i := range bytes {
		bytes[i] = byte(200 + i)
	}
	return word.FromBytes(string(bytes))
}

// wrongMemories are those that may not be.
func wrongMemories() []string {
	var out []string
	for _, many := range []int{1, 2, 8, 16, 31, 33, 48, 63, 65, 80, 1000, most - 33, most - 31, most - 16, most - 1, most + 1, most + 16, most + 31, most + 32, most + 64, 1 << 21} {
		out = append(out, text(many))
	}
	return out
}

// L1

func TestCostsThatAreKnown(t *testing.T) {
	for words, want := range map[int]int{math.MinInt: 0, -1: 0, 0: 0, 1: 3, 2: 6, 16: 48, 22: 66, 23: 70, 32: 98, 1024: 5120, 32767: 2195325, 32768: 2195456, 32769: 2195456, math.MaxInt: 2195456} {
		if got := memory.Cost(words); got != want {
			t.Errorf("Cost(%d) is %d, not %d", words, got, want)
		}
	}
}

func TestCostOfEachNumberOfWords(t *testing.T) {
	for words := -100; words <= 33000; words++ {
		expectCost(t, words)
	}
	for _, words := range greatNumbers() {
		expectCost(t, words)
	}
}

func TestNeedOfNoBytes(t *testing.T) {
	for _, at := range wordsAbout() {
		if words, is := memory.Need(at, api.Word{}); words != 0 || !is {
			t.Errorf("Need(%s, 0) is %d, %v", word.Hex(at), words, is)
		}
	}
}

func TestNeedOfFewBytes(t *testing.T) {
	for at := range 100 {
		for n := range 100 {
			expectNeed(t, word.Of(at), word.Of(n))
		}
	}
}

// Sums have no end: what is great in any part, or would begin anew at 2^64 or 2^256, is too much.
func TestNeedOfNumbersOfAllSizes(t *testing.T) {
	for _, at := range wordsAbout() {
		for _, n := range wordsAbout() {
			expectNeed(t, at, n)
		}
	}
}

func TestNeedUpToTheLimit(t *testing.T) {
	for at := range 1000 {
		for more := -2; more <= 2; more++ {
			place, n := word.Of(at*1000), word.Of(most-at*1000+more)
			expectNeed(t, place, n)
			expectNeed(t, n, place)
		}
	}
}

// L2

func TestGrow(t *testing.T) {
	for words := range 6 {
		m := text(32 * words)
		for more := -2; more < 40; more++ {
			expectGrow(t, m, more)
		}
		for _, more := range []int{1000, 1023, 1024, 1025, 32766, 32767, 32768} {
			expectGrow(t, m, more)
		}
	}
}

func TestGrowOfGreatMemory(t *testing.T) {
	for _, bytes := range []int{most - 64, most - 32, most} {
		m := text(bytes)
		for _, words := range []int{-1, 0, 1, 32765, 32766, 32767, 32768, 32769} {
			expectGrow(t, m, words)
		}
	}
}

func TestGrowToWhatMayNotBe(t *testing.T) {
	for _, m := range []string{"", text(32), text(96), text(most)} {
		for _, words := range append(greatNumbers(), -33, -32, -2, -1, 32769, 32770, 32800, 65536) {
			if got, e := memory.Grow(m, words); got != m || e != api.ErrArg {
				t.Errorf("Grow of %d bytes to %d is of %d, %d", len(m), words, len(got), e)
			}
		}
	}
}

// L3, L4

func TestWordsAtEachByte(t *testing.T) {
	for _, bytes := range []int{0, 32, 64, 96, 320} {
		for _, m := range []string{text(bytes), strings.Repeat("\x00", bytes), strings.Repeat("\xff", bytes)} {
			for _, at := range append(smallNumbers(-70, bytes+70), greatNumbers()...) {
				expectWord(t, m, at, mixedWord())
			}
		}
	}
}

// Each bit of a word stands in a byte of its own, whatever there was.
func TestEachBitOfAWord(t *testing.T) {
	for bit := range uint(256) {
		for _, m := range []string{text(64), strings.Repeat("\x00", 64), strings.Repeat("\xff", 64)} {
			expectWord(t, m, 17, above(bit, 0))
			expectWord(t, m, 32, word.Sub(word.Of(-1), above(bit, 0)))
		}
	}
}

func TestWordsAtTheEndOfGreatMemory(t *testing.T) {
	m := text(most)
	for _, at := range append(smallNumbers(most-34, most+2), -1, 0, 1, most/2) {
		expectWord(t, m, at, mixedWord())
	}
}

func TestSliceOfEachPiece(t *testing.T) {
	for _, bytes := range []int{0, 32, 64} {
		m := text(bytes)
		for at := -3; at <= bytes+3; at++ {
			for n := -3; n <= bytes+3; n++ {
				expectSlice(t, m, at, n)
			}
		}
	}
}

// No sum and no difference of these goes round.
func TestSliceOfGreatNumbers(t *testing.T) {
	numbers := append(greatNumbers(), -1, 0, 1, 31, 32, 33, 64, 65)
	for _, m := range []string{"", text(64)} {
		for _, at := range numbers {
			for _, n := range numbers {
				expectSlice(t, m, at, n)
			}
		}
	}
}

func TestSliceOfGreatMemory(t *testing.T) {
	m := text(most)
	for _, x := range [][2]int{{0, most}, {0, most + 1}, {1, most}, {1, most - 1}, {-1, most}, {most, 0}, {most, 1}, {most - 1, 1}, {most - 1, 2}, {most + 1, 0}, {most + 1, -1}, {most / 2, most / 2}, {most / 2, most/2 + 1}, {12345, 67890}} {
		expectSlice(t, m, x[0], x[1])
	}
}

func TestCopyOfEachLength(t *testing.T) {
	for _, bytes := range []int{0, 32, 64} {
		m := text(bytes)
		for many := range bytes + 3 {
			for at := -3; at <= bytes+3; at++ {
				expectCopy(t, m, at, strings.Repeat("z", many))
			}
		}
		for _, at := range greatNumbers() {
			expectCopy(t, m, at, "")
			expectCopy(t, m, at, "z")
			expectCopy(t, m, at, strings.Repeat("z", 64))
		}
	}
}

func TestCopyIntoGreatMemory(t *testing.T) {
	m, s := text(most), strings.Repeat("\x00z", most)
	for _, x := range [][2]int{{0, most}, {0, most + 1}, {1, most}, {1, most - 1}, {most, 0}, {most, 1}, {most + 1, 0}, {most - 1, 1}, {most - 5, 6}, {most / 2, 999}, {0, 2 * most}, {-1, 1}} {
		expectCopy(t, m, x[0], s[:x[1]])
	}
	expectCopy(t, "", 0, s)
	expectCopy(t, text(32), 0, s[:most])
}

// Where it is not right, nothing is told of it, and nothing is there: no byte, no empty piece.
func TestMemoryThatMayNotBe(t *testing.T) {
	for _, m := range wrongMemories() {
		for _, at := range []int{-1, 0, 1, len(m) - 32, len(m) - 1, len(m), len(m) + 1} {
			for _, n := range []int{-1, 0, 1, 32} {
				expectSlice(t, m, at, n)
				expectCopy(t, m, at, strings.Repeat("z", max(0, n)))
			}
			expectWord(t, m, at, mixedWord())
		}
		for _, words := range []int{-1, 0, 1, len(m) / 32, len(m)/32 + 1, 32767, 32768, 32769} {
			if got, e := memory.Grow(m, words); got != m || e != api.ErrArg {
				t.Errorf("Grow of %d bytes to %d is of %d, %d", len(m), words, len(got), e)
			}
		}
	}
}

func TestPieceOfEachLength(t *testing.T) {
	for _, s := range []string{"", "a", "\x00", "abc", text(31), text(32), text(33), text(40)} {
		for from := range 45 {
			for n := -3; n < 75; n++ {
				expectPiece(t, s, word.Of(from), n)
			}
		}
	}
}

// What is great in any part is behind the end, however small the others are.
func TestPieceFromNumbersOfAllSizes(t *testing.T) {
	for _, s := range []string{"", "abc", text(2000)} {
		for _, from := range wordsAbout() {
			for _, n := range []int{math.MinInt, -1, 0, 1, 2, 33, 1999, 2000, 2001, math.MaxInt} {
				expectPiece(t, s, from, n)
			}
		}
	}
}

func TestPieceUpToTheLimit(t *testing.T) {
	for _, s := range []string{"", "abc", text(most), text(2*most + 5)} {
		for _, from := range []api.Word{{}, word.Of(1), word.Of(most - 1), word.Of(most), word.Of(most + 5), word.Of(2 * most), word.Of(2*most + 4), word.Of(2*most + 5), above(64, 0), word.Of(-1)} {
			for _, n := range []int{0, 1, 5, most - 1, most, most + 1, 2 * most} {
				expectPiece(t, s, from, n)
			}
		}
		for _, n := range greatNumbers() {
			expectPiece(t, s, word.Of(1), n)
		}
	}
}

// L5

// Whatever is done, one thing behind the other: memory is as the chapter has it, and so is each word of it.
func TestWhatWasPutIsThere(t *testing.T) {
	x := uint64(88172645463325252)
	for range 200 {
		m, want := "", ""
		for range 60 {
			at, n := next(&x)%200-10, next(&x)%60
			w := api.Word{uint64(next(&x)), uint64(next(&x)), 0, uint64(next(&x))}
			before := want
			switch next(&x) % 4 {
			case 0:
				m, _ = memory.Grow(m, at/20)
				want, _ = grown(want, at/20)
			case 1:
				m, _ = memory.Store(m, at, w)
				want, _ = put(want, at, digits(w))
			case 2:
				m, _ = memory.Byte(m, at, w)
				want, _ = put(want, at, digits(w)[31:])
			case 3:
				m, _ = memory.Copy(m, at, text(n))
				want, _ = put(want, at, []byte(text(n)))
			}
			if m != want {
				t.Fatalf("%x came to\n%x, not\n%x", before, m, want)
			}
			expectSlice(t, m, at, n)
			expectWord(t, m, at, w)
		}
	}
}

func TestAWordIsItsBytes(t *testing.T) {
	m := text(96)
	for at := range 65 {
		bytes, _ := memory.Slice(m, at, 32)
		if w, e := memory.Load(m, at); w != word.FromBytes(bytes) || word.Bytes(w) != bytes || e != api.OK {
			t.Errorf("Load at %d is %s, %d, of %x", at, word.Hex(w), e, bytes)
		}
		stored, _ := memory.Store(m, at, mixedWord())
		if copied, e := memory.Copy(m, at, word.Bytes(mixedWord())); copied != stored || e != api.OK {
			t.Errorf("at %d: %x, %d, not %x", at, copied, e, stored)
		}
		if w, e := memory.Load(stored, at); w != mixedWord() || e != api.OK {
			t.Errorf("at %d: %s, %d", at, word.Hex(w), e)
		}
		if back, e := memory.Copy(stored, at, bytes); back != m || e != api.OK {
			t.Errorf("at %d: %x, %d", at, back, e)
		}
	}
}

// As much as Need tells is enough for a piece, and no word fewer is.
func TestWhatIsNeededIsEnough(t *testing.T) {
	for at := range 100 {
		for n := 1; n < 100; n++ {
			words, is := memory.Need(word.Of(at), word.Of(n))
			m, e := memory.Grow("", words)
			if _, f := memory.Slice(m, at, n); !is || e != api.OK || f != api.OK {
				t.Fatalf("%d from %d on: %d, %v, %d, %d", n, at, words, is, e, f)
			}
			m, e = memory.Grow("", words-1)
			if _, f := memory.Slice(m, at, n); e != api.OK || f != api.ErrArg {
				t.Fatalf("%d from %d on: %d is too many", n, at, words)
			}
		}
	}
}

func TestOfGreaterMemoryWhatWasThereStays(t *testing.T) {
	m := text(320)
	for words := range 100 {
		greater, e := memory.Grow(m, words)
		rest, f := memory.Slice(greater, 320, len(greater)-320)
		if !strings.HasPrefix(greater, m) || strings.Trim(rest, "\x00") != "" || e != api.OK || f != api.OK {
			t.Fatalf("%d: %x, %d, %d", words, greater, e, f)
		}
	}
}

func TestGreaterMemoryCostsNoLess(t *testing.T) {
	for words := -10; words < 33000; words++ {
		if less, more := memory.Cost(words), memory.Cost(words+1); less > more || less == more && 0 <= words && words < 32768 {
			t.Fatalf("%d costs %d, one more %d", words, less, more)
		}
	}
}

func TestTheChaptersExample(t *testing.T) {
	m, e := memory.Grow("", 1)
	m, f := memory.Store(m, 0, word.Of(1))
	if last, g := memory.Slice(m, 31, 1); last != "\x01" || e != api.OK || f != api.OK || g != api.OK {
		t.Errorf("%q, %d, %d, %d", last, e, f, g)
	}
}

// R3, R4

// A short piece does not keep all of the memory, or of what it is taken from.
func TestPiecesAreNewMemory(t *testing.T) {
	m := text(96)
	slice, _ := memory.Slice(m, 32, 32)
	part, _ := memory.Piece(m, word.Of(32), 32)
	for _, s := range []string{slice, part} {
		if s != m[32:64] || unsafe.StringData(s) == unsafe.StringData(m[32:]) {
			t.Errorf("%x stands within what it was taken from", s)
		}
	}
}

// What was answered once is not changed by what comes of it.
func TestAnswersStayAsTheyWere(t *testing.T) {
	m := strings.Repeat("ab", 32)
	one, _ := memory.Store(m, 0, mixedWord())
	two, _ := memory.Store(one, 16, word.Of(5))
	three, _ := memory.Grow(two, 4)
	four, _ := memory.Byte(three, 100, word.Of(7))
	again, _ := memory.Store(m, 0, mixedWord())
	if one != again || m != strings.Repeat("ab", 32) || two[:16] != one[:16] || three != two+strings.Repeat("\x00", 64) || four != three[:100]+"\x07"+three[101:] {
		t.Errorf("%x\n%x\n%x\n%x", one, two, three, four)
	}
}
