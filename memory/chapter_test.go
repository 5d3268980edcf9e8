package memory_test

import (
	"math/big"
	"testing"

	"railhead/api"
	"railhead/memory"
	"railhead/word"
)

// What follows says what the chapter says, byte by byte, with numbers that have no end.

// numberOf is a word's number.
func numberOf(w api.Word) *big.Int {
	n := new(big.Int)
	for place := 3; place >= 0; place-- {
		n.Lsh(n, 64)
		n.Add(n, new(big.Int).SetUint64(w[place]))
	}
	return n
}

// digits are the 32 bytes of a word's number, the highest one first.
func digits(w api.Word) []byte { return numberOf(w).FillBytes(make([]byte, 32)) }

// wordOf is the word of 32 bytes.
func wordOf(bytes []byte) api.Word {
	w := api.Word{}
	for i, b := range bytes {
		w[3-i/8] = w[3-i/8]*256 + uint64(b)
	}
	return w
}

// cost is what Cost promises.
func cost(words int) int {
	n := min(max(words, 0), 32768)
	square := big.NewInt(int64(n))
	square.Mul(square, square)
	square.Quo(square, big.NewInt(512))
	return n + n + n + int(square.Int64())
}

// need is what Need promises.
func need(at, n api.Word) (int, bool) {
	if numberOf(n).Sign() == 0 {
		return 0, true
	}
	sum := new(big.Int).Add(numberOf(at), numberOf(n))
	words, rest := sum.QuoRem(sum, big.NewInt(32), new(big.Int))
	if rest.Sign() != 0 {
		words.Add(words, big.NewInt(1))
	}
	if words.Cmp(big.NewInt(1048576/32)) > 0 {
		return 0, false
	}
	return int(words.Int64()), true
}

// mayBe is what the chapter's words tell of memory.
func mayBe(m string) bool { return len(m) <= 1048576 && len(m)%32 == 0 }

// isThere is what the chapter's words tell of a piece.
func isThere(m string, at, n int) bool {
	end := new(big.Int).Add(big.NewInt(int64(at)), big.NewInt(int64(n)))
	return n >= 0 && at >= 0 && end.Cmp(big.NewInt(int64(len(m)))) <= 0
}

// grown is what Grow promises.
func grown(m string, words int) (string, api.Errno) {
	if !mayBe(m) || words < 0 || words > 32768 {
		return m, api.ErrArg
	}
	out := []byte(m)
	for len(out) < 32*words {
		out = append(out, 0)
	}
	return string(out), api.OK
}

// put is memory with bytes from one on, if they are there.
func put(m string, at int, bytes []byte) (string, api.Errno) {
	if !mayBe(m) || !isThere(m, at, len(bytes)) {
		return m, api.ErrArg
	}
	out := []byte(m)
	for i, b := range bytes {
		out[at+i] = b
	}
	return string(out), api.OK
}

// taken are so many bytes from one on, if they are there.
func taken(m string, at, n int) (string, api.Errno) {
	if !mayBe(m) || !isThere(m, at, n) {
		return "", api.ErrArg
	}
	out := []byte{}
	for i := range n {
		out = append(out, m[at+i])
	}
	return string(out), api.OK
}

// load is what Load promises.
func load(m string, at int) (api.Word, api.Errno) {
	bytes, e := taken(m, at, 32)
	if e != api.OK {
		return api.Word{}, e
	}
	return wordOf([]byte(bytes)), api.OK
}

// piece is what Piece promises.
func piece(s string, from api.Word, n int) (string, api.Errno) {
	if n < 0 || n > 1048576 {
		return "", api.ErrArg
	}
	out := make([]byte, n)
	if first := numberOf(from); first.Cmp(big.NewInt(int64(len(s)))) < 0 {
		for i := range out {
			if place := int(first.Int64()) + i; place < len(s) {
				out[i] = s[place]
			}
		}
	}
	return string(out), api.OK
}

func expectCost(t *testing.T, words int) {
	t.Helper()
	if got, want := memory.Cost(words), cost(words); got != want {
		t.Fatalf("Cost(%d) is %d, not %d", words, got, want)
	}
}

func expectNeed(t *testing.T, at, n api.Word) {
	t.Helper()
	want, whether := need(at, n)
	if got, is := memory.Need(at, n); got != want || is != whether {
		t.Fatalf("Need(%s, %s) is %d, %v, not %d, %v", word.Hex(at), word.Hex(n), got, is, want, whether)
	}
}

// short is as much of a text as can be read.
func short(s string) string { return s[:min(len(s), 200)] }

// expectText holds a call's text and error against the chapter's.
func expectText(t *testing.T, call string, m string, numbers []int, got string, e api.Errno, want string, f api.Errno) {
	t.Helper()
	if got != want || e != f {
		t.Fatalf("%s of %d bytes, %d:\n%x (%d bytes), %d, not\n%x (%d bytes), %d", call, len(m), numbers, short(got), len(got), e, short(want), len(want), f)
	}
}

func expectGrow(t *testing.T, m string, words int) {
	t.Helper()
	got, e := memory.Grow(m, words)
	want, f := grown(m, words)
	expectText(t, "Grow", m, []int{words}, got, e, want, f)
}

// expectWord holds Load, Store and Byte at a byte against the chapter.
func expectWord(t *testing.T, m string, at int, w api.Word) {
	t.Helper()
	x, e := memory.Load(m, at)
	y, f := load(m, at)
	if x != y || e != f {
		t.Fatalf("Load of %d bytes at %d is %s, %d, not %s, %d", len(m), at, word.Hex(x), e, word.Hex(y), f)
	}
	got, e := memory.Store(m, at, w)
	want, f := put(m, at, digits(w))
	expectText(t, "Store", m, []int{at}, got, e, want, f)
	got, e = memory.Byte(m, at, w)
	want, f = put(m, at, digits(w)[31:])
	expectText(t, "Byte", m, []int{at}, got, e, want, f)
}

func expectSlice(t *testing.T, m string, at, n int) {
	t.Helper()
	got, e := memory.Slice(m, at, n)
	want, f := taken(m, at, n)
	expectText(t, "Slice", m, []int{at, n}, got, e, want, f)
}

func expectCopy(t *testing.T, m string, at int, s string) {
	t.Helper()
	got, e := memory.Copy(m, at, s)
	want, f := put(m, at, []byte(s))
	expectText(t, "Copy", m, []int{at, len(s)}, got, e, want, f)
}

func expectPiece(t *testing.T, s string, from api.Word, n int) {
	t.Helper()
	got, e := memory.Piece(s, from, n)
	want, f := piece(s, from, n)
	expectText(t, "Piece from "+word.Hex(from), s, []int{n}, got, e, want, f)
}
