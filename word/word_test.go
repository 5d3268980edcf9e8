package word_test

import (
	"math/big"
	"strings"
	"testing"

	"railhead/api"
	"railhead/word"
)

const all = 1<<64 - 1

// top is 2^256.
func top() *big.Int { return new(big.Int).Lsh(big.NewInt(1), 256) }

// toBig reads the parts themselves, so that no function under test has a say in what is expected.
func toBig(w api.Word) *big.Int {
	n := new(big.Int)
	for i := len(w) - 1; i >= 0; i-- {
		n.Lsh(n, 64).Or(n, new(big.Int).SetUint64(w[i]))
	}
	return n
}

// fromBig is the word of a number modulo 2^256.
func fromBig(n *big.Int) api.Word {
	rest := new(big.Int).Mod(n, top())
	var w api.Word
	for i := range w {
		w[i] = new(big.Int).And(rest, new(big.Int).SetUint64(all)).Uint64()
		rest.Rsh(rest, 64)
	}
	return w
}

// edges are all words whose parts are the least, the greatest, or in between.
func edges() []api.Word {
	ends := []uint64{0, 1, 1 << 63, all}
	var out []api.Word
	for _, a := range ends {
		for _, b := range ends {
			for _, c := range ends {
				for _, d := range ends {
					out = append(out, api.Word{a, b, c, d})
				}
			}
		}
	}
	return out
}

// mixed are words of mixed bits, always the same ones; every third one is short, so that noughts stand ahead.
func mixed(many int) []api.Word {
	x := uint64(88172645463325252)
	next := func() uint64 {
		x ^= x << 13
		x ^= x >> 7
		x ^= x << 17
		return x
	}
	var out []api.Word
	for i := range many {
		w := api.Word{next(), next(), next(), next()}
		if i%3 == 0 {
			clear(w[1+i%4:])
			w[i%4] >>= i % 64
		}
		out = append(out, w)
	}
	return out
}

func words() []api.Word { return append(edges(), mixed(200)...) }

// fewer are enough for what is asked of all pairs, or of all triples.
func fewer() []api.Word {
	return append([]api.Word{{}, {1}, {all}, {0, 1}, {all, all}, {0, 0, 1}, {0, 0, 0, 1}, {0, 0, 0, 1 << 63}, {all, all, all, 1<<63 - 1}, {all - 1, all, all, all}, {all, all, all, all}}, mixed(9)...)
}

// A1

func TestOfIsTheNumberModulo(t *testing.T) {
	for _, n := range []int{0, 1, 2, 255, 256, 1 << 32, api.MaxInt, api.MaxInt + 1, 1<<63 - 1, -1, -2, -256, -1 << 32, -api.MaxInt, -1 << 62, -1<<62 - 1, -1<<63 + 1, -1 << 63} {
		if got, want := word.Of(n), fromBig(big.NewInt(int64(n))); got != want {
			t.Errorf("Of(%d) is %v, not %v", n, got, want)
		}
	}
}

func TestIntUpToTheLimit(t *testing.T) {
	for _, w := range append(words(), api.Word{api.MaxInt}, api.Word{api.MaxInt - 1}, api.Word{api.MaxInt + 1}, api.Word{7, 1}, api.Word{7, 0, 1}, api.Word{7, 0, 0, 1}) {
		want, is := 0, toBig(w).Cmp(big.NewInt(api.MaxInt)) <= 0
		if is {
			want = int(toBig(w).Int64())
		}
		if n, ok := word.Int(w); n != want || ok != is {
			t.Errorf("Int(%v) is %d, %v, not %d, %v", w, n, ok, want, is)
		}
	}
	if n, ok := word.Int(api.Word{1<<62 - 1}); n != 4611686018427387903 || !ok {
		t.Error("the greatest number", n, ok)
	}
	if n, ok := word.Int(api.Word{1 << 62}); n != 0 || ok {
		t.Error("one more", n, ok)
	}
}

// A2

func TestBytesAreTheHighestFirst(t *testing.T) {
	for _, w := range words() {
		want := string(toBig(w).FillBytes(make([]byte, 32)))
		if got := word.Bytes(w); got != want {
			t.Errorf("Bytes(%v) is %x, not %x", w, got, want)
		}
	}
}

func TestFromBytesTakesTheLast(t *testing.T) {
	var text []byte
	for n := range 100 {
		text = append(text, byte(n*37+200))
		last := text[max(0, len(text)-32):]
		if got, want := word.FromBytes(string(text)), fromBig(new(big.Int).SetBytes(last)); got != want {
			t.Errorf("FromBytes of %d bytes is %v, not %v", len(text), got, want)
		}
	}
	for s, want := range map[string]api.Word{
		"":                                  {},
		"\x00":                              {},
		"\xff":                              {255},
		"\x01\x00":                          {256},
		"\x00\x00\x05":                      {5},
		strings.Repeat("\x00", 32):          {},
		strings.Repeat("\xff", 32):          {all, all, all, all},
		strings.Repeat("\xff", 31):          {all, all, all, 1<<56 - 1},
		strings.Repeat("\xff", 33):          {all, all, all, all},
		"\x01" + strings.Repeat("\x00", 32): {},
		strings.Repeat("\x09", 1000) + "\x80" + strings.Repeat("\x00", 31):                     {0, 0, 0, 1 << 63},
		"\x07" + strings.Repeat("\x00", 8):                                                     {0, 7},
		"any text at all, that is longer than what one word can hold" + word.Bytes(word.Of(9)): {9},
	} {
		if got := word.FromBytes(s); got != want {
			t.Errorf("FromBytes(%x) is %v, not %v", s, got, want)
		}
	}
}

// A3

func TestSumsDifferencesAndProducts(t *testing.T) {
	for _, a := range words() {
		for _, b := range words() {
			x, y := toBig(a), toBig(b)
			if got, want := word.Add(a, b), fromBig(new(big.Int).Add(x, y)); got != want {
				t.Fatalf("Add(%v, %v) is %v, not %v", a, b, got, want)
			}
			if got, want := word.Sub(a, b), fromBig(new(big.Int).Sub(x, y)); got != want {
				t.Fatalf("Sub(%v, %v) is %v, not %v", a, b, got, want)
			}
			if got, want := word.Mul(a, b), fromBig(new(big.Int).Mul(x, y)); got != want {
				t.Fatalf("Mul(%v, %v) is %v, not %v", a, b, got, want)
			}
			if got, want := word.Cmp(a, b), x.Cmp(y); got != want {
				t.Fatalf("Cmp(%v, %v) is %d, not %d", a, b, got, want)
			}
		}
	}
}

func TestArithmeticGoesRound(t *testing.T) {
	most, one := word.Of(-1), word.Of(1)
	if word.Add(most, one) != (api.Word{}) || word.Sub(api.Word{}, one) != most || word.Mul(most, most) != one {
		t.Error("at 2^256 it goes round")
	}
	if word.Mul(api.Word{0, 0, 1}, api.Word{0, 0, 1}) != (api.Word{}) || word.Mul(api.Word{0, 1}, api.Word{0, 0, 1}) != (api.Word{0, 0, 0, 1}) {
		t.Error("powers of 2^64")
	}
	if word.Cmp(most, one) != 1 || word.Cmp(one, most) != -1 || word.Cmp(most, most) != 0 {
		t.Error("no number is below 0")
	}
}

// A4

func TestHexIsTheShortestText(t *testing.T) {
	for _, w := range words() {
		if got, want := word.Hex(w), "0x"+toBig(w).Text(16); got != want {
			t.Errorf("Hex(%v) is %s, not %s", w, got, want)
		}
	}
	for n, want := range map[int]string{0: "0x0", 9: "0x9", 10: "0xa", 15: "0xf", 16: "0x10", 1 << 60: "0x1000000000000000", -1: "0x" + strings.Repeat("f", 64)} {
		if got := word.Hex(word.Of(n)); got != want {
			t.Errorf("Hex(Of(%d)) is %s, not %s", n, got, want)
		}
	}
}

func TestParseReadsBothBases(t *testing.T) {
	for _, w := range words() {
		for _, s := range []string{"0x" + toBig(w).Text(16), toBig(w).Text(10)} {
			if got, e := word.Parse(s); got != w || e != api.OK {
				t.Errorf("Parse(%q) is %v, %d, not %v", s, got, e, w)
			}
		}
	}
}

func TestParseUpToTheGreatest(t *testing.T) {
	n := top()
	n.Sub(n, big.NewInt(3))
	for i := range 7 {
		is := i < 3
		for _, s := range []string{n.Text(10), "0x" + n.Text(16)} {
			got, e := word.Parse(s)
			if is && (got != fromBig(n) || e != api.OK) || !is && (got != api.Word{} || e != api.ErrText) {
				t.Errorf("Parse(%q) is %v, %d", s, got, e)
			}
		}
		n.Add(n, big.NewInt(1))
	}
}

func TestParseRefuses(t *testing.T) {
	wrong := []string{
		"", " ", "0x", "x", "0x ", "-", "+", "-0", "-1", "+1", "00", "01", "007", "0x00", "0x01", "0x0f", "0x00ff",
		"a", "f", "ff", "1a", "1f", "0a", "0xg", "0x1g", "0xG", "0xA", "0xFF", "0xaB", "0X1", "0Xff", "x1", "1x", "0x0x1", "00x1", "10x1",
		" 1", "1 ", "1\n", "\n1", "1\x00", "\x001", "0x 1", "0x1 ", "1_0", "0x1_0", "1,0", "1.0", "1e3", "0b1", "0o7", "0x-1", "-0x1", "0x+1",
		"\u0661", "\uff11", "0x\uff41", "1\xff", "\xff", "\xff\xfe", "0x\x80",
		strings.Repeat("0", 64), "0x" + strings.Repeat("0", 64), "0" + strings.Repeat("9", 70),
		"1" + strings.Repeat("0", 78), "2" + strings.Repeat("0", 77), strings.Repeat("9", 78), strings.Repeat("9", 100000),
		"0x1" + strings.Repeat("0", 64), "0x" + strings.Repeat("f", 65), "0x" + strings.Repeat("f", 100000),
		strings.Repeat("1", 70) + "a", "0x" + strings.Repeat("f", 63) + "g", strings.Repeat("1", 77) + "-", "1" + strings.Repeat("0", 40) + ":", "1" + strings.Repeat("0", 40) + "/",
	}
	for _, s := range wrong {
		if got, e := word.Parse(s); got != (api.Word{}) || e != api.ErrText {
			t.Errorf("Parse(%q) is %v, %d, not an error", s, got, e)
		}
	}
}

// Every byte is tried behind a digit, so that no neighbour of the digits is taken for one.
func TestParseOfEveryByte(t *testing.T) {
	for b := range 256 {
		digit := strings.IndexByte("0123456789abcdef", byte(b))
		try := func(s string, base int, is bool) {
			got, e := word.Parse(s + string([]byte{byte(b)}))
			if is && (got != word.Of(base+digit) || e != api.OK) || !is && (got != api.Word{} || e != api.ErrText) {
				t.Errorf("Parse of %q and the byte %d is %v, %d", s, b, got, e)
			}
		}
		try("1", 10, 0 <= digit && digit < 10)
		try("0x1", 16, 0 <= digit)
		try("0x", 0, 0 <= digit)
		try("", 0, 0 <= digit && digit < 10)
	}
}

// A wrong byte is found wherever it stands, for a text is read in pieces.
func TestParseOfAWrongByteAnywhere(t *testing.T) {
	for _, right := range []string{"0x" + strings.Repeat("7", 64), strings.Repeat("7", 77)} {
		if _, e := word.Parse(right); e != api.OK {
			t.Fatalf("Parse(%q) is an error, %d", right, e)
		}
		for at := range right {
			for _, b := range []byte{0, '/', ':', '@', 'A', 'F', 'G', '`', 'g', 'x', ' ', '_', 255} {
				wrong := []byte(right)
				wrong[at] = b
				if string(wrong) == right {
					continue
				}
				if got, e := word.Parse(string(wrong)); got != (api.Word{}) || e != api.ErrText {
					t.Errorf("Parse(%q) is %v, %d, not an error", wrong, got, e)
				}
			}
		}
	}
}

// A5

func TestWhatUndoesWhat(t *testing.T) {
	for _, w := range words() {
		if got := word.FromBytes(word.Bytes(w)); got != w {
			t.Errorf("FromBytes(Bytes(%v)) is %v", w, got)
		}
		if got, e := word.Parse(word.Hex(w)); got != w || e != api.OK {
			t.Errorf("Parse(Hex(%v)) is %v, %d", w, got, e)
		}
		for _, b := range fewer() {
			if got := word.Sub(word.Add(w, b), b); got != w {
				t.Errorf("Sub(Add(%v, %v), ..) is %v", w, b, got)
			}
		}
	}
	for n := range 2000 {
		for _, n := range []int{n, n * n * n, api.MaxInt - n, api.MaxInt / (n + 1)} {
			if got, is := word.Int(word.Of(n)); got != n || !is {
				t.Errorf("Int(Of(%d)) is %d, %v", n, got, is)
			}
		}
	}
	for _, n := range []int{-1, -1 << 63, api.MaxInt + 1, 1<<63 - 1} {
		if got, is := word.Int(word.Of(n)); got != 0 || is {
			t.Errorf("Int(Of(%d)) is %d, %v", n, got, is)
		}
	}
}

func TestSumsAndProductsMayBeTurned(t *testing.T) {
	for _, a := range fewer() {
		for _, b := range fewer() {
			if word.Add(a, b) != word.Add(b, a) || word.Mul(a, b) != word.Mul(b, a) {
				t.Errorf("%v and %v may not be turned", a, b)
			}
			if word.Cmp(a, b) != -word.Cmp(b, a) || (word.Cmp(a, b) == 0) != (a == b) {
				t.Errorf("%v and %v have no order", a, b)
			}
			for _, c := range fewer() {
				if word.Mul(a, word.Add(b, c)) != word.Add(word.Mul(a, b), word.Mul(a, c)) {
					t.Errorf("%v times the sum of %v and %v is not the sum of the products", a, b, c)
				}
			}
		}
	}
}
