package keccak_test

import (
	"crypto/sha3"
	"encoding/hex"
	"strings"
	"testing"

	"railhead/api"
	"railhead/keccak"
)

// mixer answers numbers of mixed bits, always the same ones.
func mixer() func() uint64 {
	x := uint64(2463534242135795311)
	return func() uint64 {
		x ^= x >> 12
		x ^= x << 25
		x ^= x >> 27
		return x * 2685821657736338717
	}
}

// text is so many mixed bytes.
func text(many int) string {
	next := mixer()
	out := make([]byte, many)
	for i := range out {
		out[i] = byte(next() >> 32)
	}
	return string(out)
}

// filled is lanes that are all the same.
func filled(lane uint64) api.Lanes {
	var a api.Lanes
	for i := range a {
		a[i] = lane
	}
	return a
}

// single is lanes of which one bit is 1.
func single(place int) api.Lanes {
	var a api.Lanes
	a[place/64] = 1 << (place % 64)
	return a
}

// samples are lanes that are all alike, mixed, or of one bit, which stands once in each lane.
func samples() []api.Lanes {
	out := []api.Lanes{{}, filled(1<<64 - 1), filled(1), filled(1 << 63), filled(0xaaaaaaaaaaaaaaaa)}
	for next, n := mixer(), 0; n < 20; n++ {
		var a api.Lanes
		for i := range a {
			a[i] = next()
		}
		out = append(out, a)
	}
	for i := range 25 {
		out = append(out, single(64*i+i*37%64))
	}
	return out
}

// sponge is the sponge of FIPS 202 over Permute: of a rate in bytes, with what stands ahead of the last bit of the padding, and so many bytes told.
func sponge(s string, rate int, first byte, many int) string {
	block := []byte(s)
	block = append(block, make([]byte, rate-len(s)%rate)...)
	block[len(s)] ^= first
	block[len(block)-1] ^= 128
	var a api.Lanes
	for ; len(block) > 0; block = block[rate:] {
		for i := range rate {
			a[i/8] ^= uint64(block[i]) << (8 * (i % 8))
		}
		a = keccak.Permute(a)
	}
	var out []byte
	for i := range many {
		if i > 0 && i%rate == 0 {
			a = keccak.Permute(a)
		}
		out = append(out, byte(a[i%rate/8]>>(8*(i%8))))
	}
	return string(out)
}

// lengths are those about the ends of blocks, and of lanes.
func lengths() []int {
	var out []int
	for n := range 300 {
		out = append(out, n)
	}
	for _, blocks := range []int{3, 4, 10, 100} {
		for n := -9; n < 10; n++ {
			out = append(out, 136*blocks+n)
		}
	}
	return out
}

// D1

func TestPermuteIsTheChaptersRounds(t *testing.T) {
	for _, a := range samples() {
		was := a
		if got, want := keccak.Permute(a), permuted(a, 24); got != want {
			t.Fatalf("Permute(%x) is %x, not %x", a, got, want)
		}
		if a != was {
			t.Fatal("what was handed in is changed")
		}
	}
}

func TestPermuteOfNoughts(t *testing.T) {
	a := keccak.Permute(api.Lanes{})
	if a[0] != 0xf1258f7940e1dde7 || a[1] != 0x84d5ccf933c0478a || a[2] != 0xd598261ea65aa9ee || a[24] != 0xeaf1ff7b5ceca249 {
		t.Errorf("%x", a)
	}
	if b := keccak.Permute(a); b[0] != 0x2d5c954df96ecb3c || b[24] != 0x20d06cd26a8fbf5c || b != permuted(a, 24) {
		t.Errorf("%x", b)
	}
}

// D2

func TestPadUpToWholeBlocks(t *testing.T) {
	for _, n := range append(lengths(), 2000, api.MaxBytes-1, api.MaxBytes, api.MaxBytes+1, 1<<21) {
		s := text(n)
		p := keccak.Pad(s)
		more, is := strings.CutPrefix(p, s)
		if !is || len(p)%136 != 0 || len(more) < 1 || len(more) > 136 {
			t.Fatalf("of %d bytes %d are made", n, len(p))
		}
		want := "\x81"
		if len(more) > 1 {
			want = "\x01" + strings.Repeat("\x00", len(more)-2) + "\x80"
		}
		if more != want {
			t.Errorf("behind %d bytes stand %x, not %x", n, more, want)
		}
	}
}

func TestPadAtTheEdges(t *testing.T) {
	for n, want := range map[int]int{0: 136, 1: 136, 134: 136, 135: 136, 136: 272, 137: 272, 270: 272, 271: 272, 272: 408} {
		if got := len(keccak.Pad(strings.Repeat("\xff", n))); got != want {
			t.Errorf("of %d bytes %d are made, not %d", n, got, want)
		}
	}
	full := strings.Repeat("a", 135)
	if keccak.Pad(full) != full+"\x81" || keccak.Pad(full[1:]) != full[1:]+"\x01\x80" || keccak.Pad(full[2:]) != full[2:]+"\x01\x00\x80" {
		t.Error("the last bytes of a block")
	}
	if keccak.Pad("") != "\x01"+strings.Repeat("\x00", 134)+"\x80" || keccak.Pad(full+"a") != full+"a"+keccak.Pad("") {
		t.Error("a block of its own")
	}
}

// A text that looks padded is another one than that without: what is put behind it comes on top.
func TestPadOfWhatLooksPadded(t *testing.T) {
	seen := map[string]bool{}
	for _, s := range []string{"", "\x01", "\x80", "\x81", "\x00", "\x01\x00", "\x01\x80", keccak.Pad(""), keccak.Pad("a"), strings.Repeat("\x00", 135), strings.Repeat("\x00", 136), keccak.Pad("") + "\x01"} {
		p := keccak.Pad(s)
		if seen[p] || !strings.HasPrefix(p, s) || len(p) <= len(s) {
			t.Errorf("Pad(%x) is %x", s, p)
		}
		seen[p] = true
	}
}

// D3

func TestSumsThatAreKnown(t *testing.T) {
	for s, want := range map[string]string{
		"":     "c5d2460186f7233c927e7db2dcc703c0e500b653ca82273b7bfad8045d85a470", // the chapter's
		"abc":  "4e03657aea45a94fc7d47ba826c8d667c0d1e6e33a64a036ec44f58fa12d6c45",
		"\x80": "56e81f171bcc55a6ff8345e692c0f86e5b48e01b996cadc001622fb5e363b421",
		"\xc0": "1dcc4de8dec75d7aab85b567b6ccd41ad312451b948a7413f0a142fd40d49347",
		"The quick brown fox jumps over the lazy dog":  "4d741b6f1eb29cb2a9b9911c82f56fa8d73b04959d3d9d222895df6c0b28aa15",
		"The quick brown fox jumps over the lazy dog.": "578951e24efd62a3d63a86f7cd19aaa53c898fe287d2552133220370240b572d",
		"transfer(address,uint256)":                    "a9059cbb2ab09eb219583f4a59a5d0623ade346d962bcd4e46b11da047c9049b",
		"Transfer(address,address,uint256)":            "ddf252ad1be2c89b69c2b068fc378daa952ba7f163c4a11628f55a4df523b3ef",
	} {
		if got, e := keccak.Sum(s); hex.EncodeToString([]byte(got)) != want || e != api.OK {
			t.Errorf("Sum(%q) is %x, %d, not %s", s, got, e, want)
		}
	}
}

// The blocks are those that Pad makes, and the rounds are the chapter's.
func TestSumIsOfPadByTheChaptersRounds(t *testing.T) {
	for _, n := range []int{0, 1, 7, 8, 9, 135, 136, 137, 271, 272, 273, 408, 500} {
		var a api.Lanes
		for i, b := range []byte(keccak.Pad(text(n))) {
			a[i%136/8] ^= uint64(b) << (8 * (i % 8))
			if i%136 == 135 {
				a = permuted(a, 24)
			}
		}
		var want []byte
		for i := range 32 {
			want = append(want, byte(a[i/8]>>(8*(i%8))))
		}
		if got, e := keccak.Sum(text(n)); got != string(want) || e != api.OK {
			t.Errorf("Sum of %d bytes is %x, %d, not %x", n, got, e, want)
		}
	}
}

func TestSumUpToTheLimit(t *testing.T) {
	s := text(api.MaxBytes + 1)
	for _, n := range []int{api.MaxBytes - 1, api.MaxBytes} {
		if got, e := keccak.Sum(s[:n]); got != sponge(s[:n], 136, 1, 32) || e != api.OK {
			t.Errorf("Sum of %d bytes is %x, %d", n, got, e)
		}
	}
	for _, long := range []string{s, s + "a", strings.Repeat("\x00", api.MaxBytes+1), strings.Repeat("a", 1<<22)} {
		if got, e := keccak.Sum(long); got != "" || e != api.ErrLong {
			t.Errorf("Sum of %d bytes is %x, %d, not an error", len(long), got, e)
		}
	}
}

// D4

func TestSumIsTheSponge(t *testing.T) {
	seen := map[string]int{}
	for _, n := range lengths() {
		s := text(n)
		got, e := keccak.Sum(s)
		if got != sponge(s, 136, 1, 32) || e != api.OK {
			t.Fatalf("Sum of %d bytes is %x, %d", n, got, e)
		}
		if other, is := seen[got]; is && text(other) != s {
			t.Fatalf("Sums of %d and %d bytes are the same", n, other)
		}
		seen[got] = n
	}
}

// The library's sums are other sponges over the same permutation: they differ in the rate, or in what is put behind a text.
func TestPermuteIsThatOfTheStandard(t *testing.T) {
	for _, n := range lengths() {
		s := text(n)
		if want := sha3.Sum256([]byte(s)); sponge(s, 136, 6, 32) != string(want[:]) {
			t.Fatalf("SHA3-256 of %d bytes is another one", n)
		}
		if want := sha3.Sum512([]byte(s)); sponge(s, 72, 6, 64) != string(want[:]) {
			t.Fatalf("SHA3-512 of %d bytes is another one", n)
		}
		if want := sha3.SumSHAKE128([]byte(s), 400); sponge(s, 168, 31, 400) != string(want) {
			t.Fatalf("SHAKE128 of %d bytes is another one", n)
		}
	}
}

func TestPermuteCanBeUndone(t *testing.T) {
	for _, a := range samples()[:8] {
		if got := undone(keccak.Permute(a)); got != a {
			t.Fatalf("Permute(%x) was made of %x as well", a, got)
		}
	}
}

func TestPermuteOfUnlikeLanesIsUnlike(t *testing.T) {
	seen := map[api.Lanes]bool{}
	for place := range 1600 {
		seen[keccak.Permute(single(place))] = true
	}
	seen[keccak.Permute(api.Lanes{})] = true
	if len(seen) != 1601 {
		t.Errorf("of 1601 lanes %d were made", len(seen))
	}
}

func TestTheSameForTheSame(t *testing.T) {
	s := text(1000)
	first, _ := keccak.Sum(s)
	if s != text(1000) {
		t.Error("what was handed in is changed")
	}
	keccak.Sum("another text")
	again, _ := keccak.Sum(text(1000))
	if first != again || keccak.Pad(s) != keccak.Pad(text(1000)) {
		t.Error("it hangs on more than the text")
	}
}
