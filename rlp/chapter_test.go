package rlp_test

import (
	"math/big"
	"slices"
	"strings"
	"testing"

	"railhead/api"
	"railhead/rlp"
)

// What follows reads bytes and makes them another way, as the chapter tells it, one sentence behind the other.

// stop ends a reading.
type stop struct {
	e  api.Errno
	at int
}

// asTold is what Decode promises.
func asTold(s string) (x api.Item, e api.Errno, at int) {
	if len(s) > 1<<20 {
		return api.Item{}, api.ErrLong, 0
	}
	defer func() {
		if p := recover(); p != nil {
			why := p.(stop)
			x, e, at = api.Item{}, why.e, why.at
		}
	}()
	many := 0
	x, behind := oneItem(s, 0, len(s), 0, &many)
	if behind < len(s) {
		panic(stop{api.ErrMore, behind})
	}
	return x, api.OK, 0
}

// oneItem is the item at a place, and the place behind it.
func oneItem(s string, at, end, within int, many *int) (api.Item, int) {
	if within == 16 {
		panic(stop{api.ErrDeep, at})
	}
	if *many == 5000 {
		panic(stop{api.ErrLong, at})
	}
	if at == end {
		panic(stop{api.ErrShort, at})
	}
	*many++
	b := int(s[at])
	if b < 128 {
		return api.Item{Bytes: s[at : at+1]}, at + 1
	}
	list := b >= 192
	told := b - 128
	if list {
		told = b - 192
	}
	from, size := at+1, big.NewInt(int64(told))
	if told > 55 {
		from = at + 1 + told - 55
		if from > end {
			panic(stop{api.ErrShort, at})
		}
		size.SetBytes([]byte(s[at+1 : from]))
		if s[at+1] == 0 || size.Cmp(big.NewInt(56)) < 0 {
			panic(stop{api.ErrForm, at + 1})
		}
	}
	to := new(big.Int).Add(size, big.NewInt(int64(from)))
	if to.Cmp(big.NewInt(int64(end))) > 0 {
		panic(stop{api.ErrShort, at})
	}
	behind := int(to.Int64())
	if !list {
		if behind-from == 1 && s[from] < 128 {
			panic(stop{api.ErrForm, at})
		}
		return api.Item{Bytes: s[from:behind]}, behind
	}
	out := api.Item{List: true}
	for from < behind {
		var kid api.Item
		kid, from = oneItem(s, from, behind, within+1, many)
		out.Kids = append(out.Kids, kid)
	}
	return out, from
}

// inBytes is what Encode promises of a right item.
func inBytes(x api.Item) string {
	if len(x.Bytes) == 1 && x.Bytes[0] < 128 {
		return x.Bytes
	}
	n, body := 128, x.Bytes
	if x.List {
		n, body = 192, ""
		for _, kid := range x.Kids {
			body += inBytes(kid)
		}
	}
	if len(body) <= 55 {
		return string([]byte{byte(n + len(body))}) + body
	}
	digits := big.NewInt(int64(len(body))).Bytes()
	return string([]byte{byte(n + 55 + len(digits))}) + string(digits) + body
}

// chance is numbers that are the same ones each time.
type chance uint64

func (c *chance) below(n int) int {
	*c = *c*6364136223846793005 + 1442695040888963407
	return int(uint64(*c>>33) % uint64(n))
}

// item is some right item within so many others, if there are few kids at each.
func (c *chance) item(within int) api.Item {
	if within < 16 && c.below(3) > 0 {
		out := api.Item{List: true}
		if within < 15 {
			for range c.below(4) {
				out.Kids = append(out.Kids, c.item(within+1+c.below(3)))
			}
		}
		return out
	}
	sizes := []int{0, 1, 1, 1, 2, 3, 20, 32, 53, 54, 55, 56, 57, 255, 256, 300}
	text := make([]byte, sizes[c.below(len(sizes))])
	for i := range text {
		text[i] = byte(c.below(256))
	}
	return api.Item{Bytes: string(text)}
}

// some are right items that reach all depths.
func some(many int) []api.Item {
	c := chance(7)
	var out []api.Item
	for range many {
		x := c.item(0)
		for range c.below(15 - depth(x) + 1) {
			x = byHand(x, rlp.Text("a"))
		}
		out = append(out, x)
	}
	return out
}

// bounds are the bytes at which something else begins, and some between.
const bounds = "\x00\x01\x37\x38\x7f\x80\x81\x82\xb7\xb8\xb9\xbf\xc0\xc1\xc2\xc3\xf7\xf8\xf9\xff"

func expectAsTold(t *testing.T, s string) {
	t.Helper()
	x, e, at := rlp.Decode(s)
	want, f, place := asTold(s)
	if e != f || at != place || !rlp.Same(x, want) {
		t.Fatalf("%.40x: %v %v %d, not %v %v %d", s, x, e, at, want, f, place)
	}
	if e != api.OK {
		return
	}
	if back, e := rlp.Encode(x); !rlp.Right(x) || back != s || e != api.OK {
		t.Fatalf("%.40x: back %.40x %v", s, back, e)
	}
}

// F3, F4 and F5

func TestDecodeOfAllShortTexts(t *testing.T) {
	for a := range 256 {
		expectAsTold(t, string([]byte{byte(a)}))
		for b := range 256 {
			expectAsTold(t, string([]byte{byte(a), byte(b)}))
		}
	}
	long := []string{""}
	for range 4 {
		var next []string
		for _, s := range long {
			for i := range len(bounds) {
				next = append(next, s+bounds[i:i+1])
			}
		}
		long = next
		for _, s := range long {
			expectAsTold(t, s)
		}
	}
}

func TestDecodeUndoesEncode(t *testing.T) {
	for _, x := range some(3000) {
		s, e := rlp.Encode(x)
		if s != inBytes(x) || e != api.OK {
			t.Fatalf("%v: %x %v", x, s, e)
		}
		if y, e, at := rlp.Decode(s); !rlp.Same(x, y) || e != api.OK || at != 0 {
			t.Fatalf("%v: %x %v %d", x, s, e, at)
		}
	}
}

func TestDecodeOfBytesThatWereChanged(t *testing.T) {
	c := chance(11)
	for _, x := range some(1500) {
		s := inBytes(x)
		for range 12 {
			at := c.below(len(s))
			b := bounds[c.below(len(bounds))]
			expectAsTold(t, s[:at]+string([]byte{b})+s[at+1:])
			expectAsTold(t, s[:at]+string([]byte{b})+s[at:])
			expectAsTold(t, s[:at]+s[at+1:])
			expectAsTold(t, s[:at])
			expectAsTold(t, s+string([]byte{b}))
		}
	}
}

func TestEachItemHasOneForm(t *testing.T) {
	forms := map[string]api.Item{}
	for _, x := range some(2000) {
		s, _ := rlp.Encode(x)
		if y, is := forms[s]; is && !rlp.Same(x, y) {
			t.Fatalf("%x: %v and %v", s, x, y)
		}
		forms[s] = x
	}
	// Whatever else tells the same item is refused.
	for _, s := range []string{"\x81a", "\xb8\x01a", "\xb8\x00", "\xb8\x37" + strings.Repeat("a", 55), "\xb9\x00\x38" + strings.Repeat("a", 56), "\xf8\x00", "\xf9\x00\x38" + strings.Repeat("a", 56), "a\x00", "\xc0\xc0"} {
		if _, e, _ := rlp.Decode(s); e == api.OK {
			t.Errorf("%x", s)
		}
	}
}

func TestGreatItemsGoAndComeBack(t *testing.T) {
	kids := make([]api.Item, 0, 4999)
	for i := range cap(kids) {
		kids = append(kids, rlp.Text(strings.Repeat("ab", i%80)))
	}
	wide := rlp.List(kids...)
	tall := rlp.List(kids[:4000]...)
	for range 14 {
		tall = rlp.List(tall, rlp.Text("b"))
	}
	for i, x := range []api.Item{wide, tall, rlp.Text(strings.Repeat("a", 1<<20-4))} {
		s, e := rlp.Encode(x)
		if y, f, at := rlp.Decode(s); s != inBytes(x) || e != api.OK || f != api.OK || at != 0 || !rlp.Same(x, y) {
			t.Error(i, e, f, at)
		}
	}
	if !slices.ContainsFunc(some(3000), func(x api.Item) bool { return depth(x) == 15 }) {
		t.Error("none of the items is as deep as there may be")
	}
}

func depth(x api.Item) int {
	most := 0
	for _, kid := range x.Kids {
		most = max(most, depth(kid)+1)
	}
	return most
}
