package rlp_test

import (
	"math/big"
	"slices"
	"strings"
	"testing"

	"railhead/api"
	"railhead/rlp"
	"railhead/word"
)

// byHand is a list whose kids are not copied.
func byHand(kids ...api.Item) api.Item { return api.Item{List: true, Kids: kids} }

// nested is a list within so many others.
func nested(within int) api.Item {
	x := byHand()
	for range within {
		x = byHand(x)
	}
	return x
}

// numbers are words at the edges of bytes.
func numbers() []api.Word {
	out := []api.Word{{}, {1}, {15}, {127}, {128}, {255}, {256}, {1024}}
	for bits := 8; bits < 256; bits += 8 {
		var w api.Word
		w[bits/64] = 1 << (bits % 64)
		out = append(out, w, word.Sub(w, word.Of(1)), word.Add(w, word.Of(1)))
	}
	return append(out, word.Of(-1), word.Of(-256))
}

// digits are a word's, reckoned another way.
func digits(w api.Word) string {
	n := new(big.Int)
	for i := 3; i >= 0; i-- {
		n.Lsh(n, 64).Or(n, new(big.Int).SetUint64(w[i]))
	}
	return string(n.Bytes())
}

// wrongItems are texts and lists at once.
func wrongItems() []api.Item {
	return []api.Item{
		{List: true, Bytes: "a"},
		{List: true, Bytes: "\x00"},
		{List: true, Bytes: "a", Kids: []api.Item{{}}},
		{Kids: []api.Item{{}}},
		{Bytes: "a", Kids: []api.Item{{}}},
		{Kids: []api.Item{{List: true}}},
	}
}

// F1

func TestTextIsTheTextOfTheseBytes(t *testing.T) {
	for _, s := range []string{"", "\x00", "\x00\x00", "a", "\x80", "\xff\xfe", "dog", strings.Repeat("\x00x", 1<<20)} {
		if x := rlp.Text(s); x.List || x.Bytes != s || len(x.Kids) != 0 {
			t.Errorf("%.20q: %v", s, x.List)
		}
	}
}

func TestNumberIsTheDigitsWithoutNoughtsAhead(t *testing.T) {
	for _, w := range numbers() {
		if x := rlp.Number(w); x.List || x.Bytes != digits(w) || len(x.Kids) != 0 {
			t.Errorf("%v: %v", w, x)
		}
	}
}

func TestListIsTheListOfThese(t *testing.T) {
	for _, kids := range [][]api.Item{nil, {}, {{}}, {rlp.Text("a"), rlp.Text("b")}, {nested(3), rlp.Text(""), nested(0)}, wrongItems()} {
		x := rlp.List(kids...)
		if !x.List || x.Bytes != "" || !slices.EqualFunc(x.Kids, kids, rlp.Same) {
			t.Errorf("%v: %v", kids, x)
		}
	}
}

func TestValueUndoesNumber(t *testing.T) {
	for _, w := range numbers() {
		if got, is := rlp.Value(rlp.Number(w)); got != w || !is {
			t.Errorf("%v: %v %v", w, got, is)
		}
		if got, is := rlp.Value(api.Item{Bytes: digits(w), Kids: []api.Item{}}); got != w || !is {
			t.Errorf("%v, kids that are none: %v %v", w, got, is)
		}
	}
}

func TestValueOfWhatIsNoNumber(t *testing.T) {
	wrong := append(wrongItems(),
		rlp.List(), rlp.List(rlp.Text("a")), rlp.Text("\x00"), rlp.Text("\x00\x01"),
		rlp.Text("\x00"+strings.Repeat("\xff", 31)), rlp.Text("\x00"+strings.Repeat("\xff", 32)),
		rlp.Text("\x01"+strings.Repeat("\x00", 32)), rlp.Text(strings.Repeat("a", 33)), rlp.Text(strings.Repeat("a", 1<<20)),
	)
	for i, x := range wrong {
		if w, is := rlp.Value(x); is || w != (api.Word{}) {
			t.Errorf("%d: %v %v", i, w, is)
		}
	}
}

func TestSameHoldsListBytesAndKids(t *testing.T) {
	unlike := append(wrongItems(),
		rlp.Text(""), rlp.Text("\x00"), rlp.Text("a"), rlp.Text("b"), rlp.Text("ab"),
		rlp.List(), rlp.List(rlp.Text("a")), rlp.List(rlp.Text("b")), rlp.List(rlp.Text("ab")),
		rlp.List(rlp.Text("a"), rlp.Text("b")), rlp.List(rlp.Text("b"), rlp.Text("a")),
		rlp.List(rlp.List()), rlp.List(rlp.List(), rlp.List()), rlp.List(rlp.List(rlp.Text("a"))),
		rlp.List(rlp.List(rlp.Text("a")), rlp.Text("b")), rlp.List(rlp.List(rlp.Text("a"), rlp.Text("b"))),
		nested(15), nested(16),
	)
	for i, a := range unlike {
		for j, b := range unlike {
			if rlp.Same(a, b) != (i == j) || rlp.Same(a, rlp.List(b).Kids[0]) != (i == j) {
				t.Errorf("%d %d", i, j)
			}
		}
	}
	if !rlp.Same(api.Item{List: true}, api.Item{List: true, Kids: []api.Item{}}) {
		t.Error("kids that are none")
	}
}

// F2

func TestRightOfWhatIsBoth(t *testing.T) {
	for i, x := range wrongItems() {
		for j, y := range []api.Item{x, byHand(x), byHand(rlp.Text("a"), x), byHand(byHand(byHand(), x), rlp.Text("a"))} {
			if rlp.Right(y) {
				t.Error(i, j)
			}
			if s, e := rlp.Encode(y); s != "" || e != api.ErrArg {
				t.Error(i, j, e)
			}
		}
	}
	for i, x := range []api.Item{{}, {Kids: []api.Item{}}, {List: true}, {List: true, Kids: []api.Item{}}, {Bytes: "a", Kids: []api.Item{}}} {
		if !rlp.Right(x) || !rlp.Right(byHand(x, x)) {
			t.Error(i)
		}
	}
}

func TestRightWithinFifteenOthers(t *testing.T) {
	for within := range 40 {
		right := within <= 15
		for i, x := range []api.Item{nested(within), byHand(rlp.Text("a"), nested(within-min(within, 1)))} {
			if within == 0 && i == 1 {
				continue
			}
			if rlp.Right(x) != right {
				t.Error(within, i)
			}
			if s, e := rlp.Encode(x); (e == api.OK) != right || (e == api.ErrArg) == right || (s == "") == right {
				t.Error(within, i, e)
			}
		}
	}
	// A text is within as many as a list would be.
	x := rlp.Text("a")
	for within := range 20 {
		if rlp.Right(x) != (within <= 15) {
			t.Error("text", within)
		}
		x = byHand(x)
	}
}

func TestRightUpToItsManyItems(t *testing.T) {
	for _, many := range []int{4998, 4999, 5000, 5001, 10000} {
		flat := byHand(make([]api.Item, many-1)...)
		halves := byHand(byHand(make([]api.Item, many/2-1)...), byHand(make([]api.Item, many-many/2-2)...))
		for i, x := range []api.Item{flat, halves} {
			if right := many <= 5000; rlp.Right(x) != right {
				t.Error(many, i)
			}
		}
	}
}

func TestRightAtItemsWithoutNumber(t *testing.T) {
	// Each list has the one below it twice: as a tree there are 2^60 items.
	x := byHand()
	for range 60 {
		x = byHand(x, x)
	}
	if rlp.Right(x) {
		t.Error("right")
	}
	if _, e := rlp.Encode(x); e != api.ErrArg {
		t.Error(e)
	}
	if _, is := rlp.Value(x); is {
		t.Error("value")
	}
}

// F3

func TestEncodeOfTheChaptersExample(t *testing.T) {
	want := "\xc8\x83\x63\x61\x74\x83\x64\x6f\x67"
	if s, e := rlp.Encode(rlp.List(rlp.Text("cat"), rlp.Text("dog"))); s != want || e != api.OK {
		t.Errorf("%x %v", s, e)
	}
}

func TestEncodeOfTextsOfOneByte(t *testing.T) {
	for b := range 256 {
		one := string([]byte{byte(b)})
		want := one
		if b >= 128 {
			want = "\x81" + one
		}
		if s, e := rlp.Encode(rlp.Text(one)); s != want || e != api.OK {
			t.Errorf("%x: %x %v", b, s, e)
		}
		if x, e, at := rlp.Decode(want); x.List || x.Bytes != one || e != api.OK || at != 0 {
			t.Errorf("%x: %v %v %v", b, x, e, at)
		}
	}
}

func TestEncodeOfHeadsAtTheirEdges(t *testing.T) {
	for _, c := range []struct {
		many       int
		text, list string
	}{
		{0, "\x80", "\xc0"},
		{2, "\x82", "\xc2"},
		{55, "\xb7", "\xf7"},
		{56, "\xb8\x38", "\xf8\x38"},
		{255, "\xb8\xff", "\xf8\xff"},
		{256, "\xb9\x01\x00", "\xf9\x01\x00"},
		{65535, "\xb9\xff\xff", "\xf9\xff\xff"},
		{65536, "\xba\x01\x00\x00", "\xfa\x01\x00\x00"},
		{1<<20 - 4, "\xba\x0f\xff\xfc", "\xfa\x0f\xff\xfc"},
	} {
		body := strings.Repeat("a", c.many)
		if s, e := rlp.Encode(rlp.Text(body)); s != c.text+body || e != api.OK {
			t.Errorf("text of %d: %.8x %v", c.many, s, e)
		}
		if c.many > 4999 {
			continue
		}
		list := api.Item{List: true}
		for range c.many {
			list.Kids = append(list.Kids, rlp.Text("a"))
		}
		if s, e := rlp.Encode(list); s != c.list+body || e != api.OK {
			t.Errorf("list of %d: %.8x %v", c.many, s, e)
		}
	}
	long := strings.Repeat("b", 65531)
	if s, e := rlp.Encode(rlp.List(rlp.Text(long))); s != "\xf9\xff\xfe\xb9\xff\xfb"+long || e != api.OK {
		t.Errorf("%.8x %v", s, e)
	}
	if s, e := rlp.Encode(rlp.List(rlp.Text(long), rlp.Text("aa"))); s != "\xfa\x01\x00\x01\xb9\xff\xfb"+long+"\x82aa" || e != api.OK {
		t.Errorf("%.8x %v", s, e)
	}
}

func TestEncodeUpToTheLimit(t *testing.T) {
	text := func(many int) api.Item { return rlp.Text(strings.Repeat("a", many)) }
	for i, c := range []struct {
		x    api.Item
		want api.Errno
	}{
		{text(1<<20 - 4), api.OK},
		{text(1<<20 - 3), api.ErrLong},
		{text(1 << 20), api.ErrLong},
		{text(1<<20 + 1), api.ErrLong},
		{rlp.List(text(1<<20 - 8)), api.OK},
		{rlp.List(text(1<<20 - 7)), api.ErrLong},
		{rlp.List(text(1<<19), text(1<<19-12)), api.OK},
		{rlp.List(text(1<<19), text(1<<19-11)), api.ErrLong},
		// What is not right is told ahead of what is too long.
		{byHand(text(1<<20), api.Item{List: true, Bytes: "a"}), api.ErrArg},
		{byHand(append(make([]api.Item, 4999), text(1<<20))...), api.ErrArg},
	} {
		s, e := rlp.Encode(c.x)
		if e != c.want || (e == api.OK) != (len(s) == 1<<20) || (e != api.OK) != (s == "") {
			t.Error(i, e, len(s))
		}
	}
	// It is far too long, and never put together.
	much := slices.Repeat([]api.Item{text(1 << 20)}, 1900)
	if s, e := rlp.Encode(byHand(much...)); s != "" || e != api.ErrLong {
		t.Error(e)
	}
}

// F4

// refusal is bytes, and what is wrong with them.
type refusal struct {
	s  string
	e  api.Errno
	at int
}

func expectRefusals(t *testing.T, l ...refusal) {
	t.Helper()
	for _, c := range l {
		if x, e, at := rlp.Decode(c.s); e != c.e || at != c.at || x.List || x.Bytes != "" || len(x.Kids) != 0 {
			t.Errorf("%.20x: %v %d %v", c.s, e, at, x)
		}
	}
}

func TestDecodeOfTooFewBytes(t *testing.T) {
	a := strings.Repeat("a", 60)
	expectRefusals(t,
		refusal{"", api.ErrShort, 0},
		refusal{"\x81", api.ErrShort, 0},
		refusal{"\x82a", api.ErrShort, 0},
		refusal{"\xb7" + a[:54], api.ErrShort, 0},
		refusal{"\xb8", api.ErrShort, 0},
		refusal{"\xb8\x38" + a[:55], api.ErrShort, 0},
		refusal{"\xb9\x01", api.ErrShort, 0},
		refusal{"\xbb\x01\x00\x00", api.ErrShort, 0},
		refusal{"\xbb\x01\x00\x00\x00" + a, api.ErrShort, 0},
		refusal{"\xc1", api.ErrShort, 0},
		refusal{"\xf7" + a[:54], api.ErrShort, 0},
		refusal{"\xf8\x38" + a[:55], api.ErrShort, 0},
		refusal{"\xf9\x01", api.ErrShort, 0},
		// What a list is ahead of is not looked at, where it goes beyond the end.
		refusal{"\xc3\x81\x00", api.ErrShort, 0},
		// The list ends, the text does not.
		refusal{"\xc1\x81a", api.ErrShort, 1},
		refusal{"\xc1\x81\x80", api.ErrShort, 1},
		refusal{"\xc2a\x81\x80", api.ErrShort, 2},
		refusal{"\xc2\xc1\xc1", api.ErrShort, 2},
		refusal{"\xc2\xc1\xc1\xc0", api.ErrShort, 2},
		refusal{"\xc2\xc2aa", api.ErrShort, 1},
		refusal{"\xc1\xb8\x38" + a, api.ErrShort, 1},
		refusal{"\xc1\xf8\x38" + a, api.ErrShort, 1},
		refusal{"\xc2\xb9\x01\x00", api.ErrShort, 1},
	)
	for _, first := range []string{"\xbf", "\xff"} {
		for _, size := range []string{"\xff\xff\xff\xff\xff\xff\xff\xff", "\x80\x00\x00\x00\x00\x00\x00\x00", "\x7f\xff\xff\xff\xff\xff\xff\xff", "\x40\x00\x00\x00\x00\x00\x00\x00", "\x3f\xff\xff\xff\xff\xff\xff\xff", "\x01\x00\x00\x00\x00\x00\x00\x00"} {
			expectRefusals(t, refusal{first + size, api.ErrShort, 0}, refusal{first + size + a, api.ErrShort, 0}, refusal{"\xc9" + first + size, api.ErrShort, 1})
		}
	}
}

func TestDecodeOfAnotherForm(t *testing.T) {
	a := strings.Repeat("a", 300)
	expectRefusals(t,
		refusal{"\x81\x00", api.ErrForm, 0},
		refusal{"\x81\x7f", api.ErrForm, 0},
		refusal{"\xc2\x81\x7f", api.ErrForm, 1},
		refusal{"\xc3a\x81\x7f", api.ErrForm, 2},
		// A text of one byte that digits tell: the digits are wrong first.
		refusal{"\xb8\x01a", api.ErrForm, 1},
		refusal{"\xb8\x00", api.ErrForm, 1},
		refusal{"\xb8\x37" + a[:55], api.ErrForm, 1},
		refusal{"\xf8\x37" + a[:55], api.ErrForm, 1},
		refusal{"\xf8\x00", api.ErrForm, 1},
		refusal{"\xb9\x00\x38" + a[:56], api.ErrForm, 1},
		refusal{"\xb9\x00\xff" + a[:255], api.ErrForm, 1},
		refusal{"\xf9\x00\x38" + a[:56], api.ErrForm, 1},
		refusal{"\xbf\x00\x00\x00\x00\x00\x00\x00\x38" + a[:56], api.ErrForm, 1},
		refusal{"\xff\x00\xff\xff\xff\xff\xff\xff\xff", api.ErrForm, 1},
		// The digits' form goes ahead of what is missing behind them.
		refusal{"\xb8\x37", api.ErrForm, 1},
		refusal{"\xb9\x00\x38", api.ErrForm, 1},
		refusal{"\xc2\xb8\x37", api.ErrForm, 2},
		refusal{"\xc3\xf9\x00\xff", api.ErrForm, 2},
		// The digits that are missing go ahead of their form.
		refusal{"\xb9\x00", api.ErrShort, 0},
		refusal{"\xc2\xb9\x00\x38", api.ErrShort, 1},
	)
}

func TestDecodeOfBytesBehind(t *testing.T) {
	a := strings.Repeat("a", 60)
	expectRefusals(t,
		refusal{"aa", api.ErrMore, 1},
		refusal{"\x80\x80", api.ErrMore, 1},
		refusal{"\xc0\x00", api.ErrMore, 1},
		refusal{"\xc1aa", api.ErrMore, 2},
		refusal{"\x82abc", api.ErrMore, 3},
		refusal{"\xb8\x38" + a[:57], api.ErrMore, 58},
		refusal{"\xf8\x38" + a[:57], api.ErrMore, 58},
		refusal{"\xc2\xc0\xc0\xff\xff", api.ErrMore, 3},
		// The first error ends it.
		refusal{"\x81\x00\x00", api.ErrForm, 0},
		refusal{"\xc1\x81\xff", api.ErrShort, 1},
	)
}

func TestDecodeOfTooDeep(t *testing.T) {
	// around is so many lists around bytes, each of one byte's head.
	around := func(lists int, s string) string {
		for range lists {
			s = string([]byte{byte(0xc0 + len(s))}) + s
		}
		return s
	}
	expectRefusals(t,
		refusal{around(16, "a"), api.ErrDeep, 16},
		refusal{around(16, "\xc0"), api.ErrDeep, 16},
		refusal{around(30, "\xc0"), api.ErrDeep, 16},
		// Too deep goes ahead of what its head has wrong, and of bytes behind.
		refusal{around(16, "\x81\x00"), api.ErrDeep, 16},
		refusal{around(16, "\xff"), api.ErrDeep, 16},
		refusal{around(16, "a") + "a", api.ErrDeep, 16},
		refusal{around(15, "\xc1\x81\x80"), api.ErrDeep, 16},
		refusal{around(15, "\xc2\x80"), api.ErrShort, 15},
		refusal{around(15, "a\xc1a"), api.ErrDeep, 17},
		refusal{around(15, "\xc0\xc1"), api.ErrShort, 16},
	)
	for lists := range 16 {
		for _, s := range []string{"a", "\xc0", "\x82aa", "\xc0\xc0"} {
			if _, e, at := rlp.Decode(around(lists, s)); (e != api.OK || at != 0) && (lists > 0 || s != "\xc0\xc0") {
				t.Errorf("%d %x: %v %d", lists, s, e, at)
			}
		}
	}
}

func TestDecodeOfTooManyItems(t *testing.T) {
	a := strings.Repeat("a", 6000)
	expectRefusals(t,
		refusal{"\xf9\x13\x88" + a[:5000], api.ErrLong, 3 + 4999},
		refusal{"\xf9\x17\x70" + a[:6000], api.ErrLong, 3 + 4999},
		refusal{"\xf9\x13\x88" + a[:4999] + "\xff", api.ErrLong, 3 + 4999},
		refusal{"\xf9\x13\x88" + a[:4998] + "\x81a", api.ErrForm, 3 + 4998},
		refusal{"\xf9\x13\x88" + a[:4999] + "\x81" + "a", api.ErrLong, 3 + 4999},
		// A list is read ahead of its kids: 4998 texts and two lists.
		refusal{"\xf9\x13\x88" + a[:4998] + "\xc1a", api.ErrLong, 3 + 4999},
		refusal{"\xf9\x13\x8a\xf9\x13\x86" + a[:4998] + "a", api.ErrLong, 6 + 4998},
		refusal{"\xf9\x13\x87" + a[:4999] + "a", api.ErrMore, 3 + 4999},
	)
	for _, s := range []string{"\xf9\x13\x87" + a[:4999], "\xf9\x13\x89\xf9\x13\x86" + a[:4998], "\xf9\x13\x87" + a[:4998] + "\xc0"} {
		x, e, at := rlp.Decode(s)
		if e != api.OK || at != 0 || !rlp.Right(x) {
			t.Error(e, at)
		}
	}
}

func TestDecodeOfTooDeepGoesAheadOfTooMany(t *testing.T) {
	// 4984 texts and 16 lists, each in the one ahead; then one more within the last.
	s := "\xc1a"
	for range 14 {
		s = string([]byte{byte(0xc0 + len(s))}) + s
	}
	body := strings.Repeat("a", 4984) + s
	expectRefusals(t, refusal{"\xf9" + string([]byte{byte(len(body) >> 8), byte(len(body))}) + body, api.ErrDeep, 3 + len(body) - 1})
}

func TestDecodeOfTooLong(t *testing.T) {
	a := strings.Repeat("a", 1<<20+1)
	expectRefusals(t,
		refusal{a, api.ErrLong, 0},
		refusal{"\xba\x0f\xff\xfd" + a[:1<<20-3], api.ErrLong, 0},
		refusal{"\xff" + a[:1<<20], api.ErrLong, 0},
		refusal{a[:1<<20], api.ErrMore, 1},
		refusal{"\xba\x0f\xff\xfd" + a[:1<<20-4], api.ErrShort, 0},
	)
	if x, e, at := rlp.Decode("\xba\x0f\xff\xfc" + a[:1<<20-4]); x.Bytes != a[:1<<20-4] || e != api.OK || at != 0 {
		t.Error(e, at)
	}
}

// R1: bounds

func TestItemsNestedAsDeepAsThereMayBe(t *testing.T) {
	deep, deeper := nested(1<<16-2), nested(1<<16-1)
	if rlp.Right(deep) || !rlp.Same(deep, nested(1<<16-2)) || rlp.Same(deep, deeper) || rlp.Same(deeper, deep) {
		t.Error("deep")
	}
	if !rlp.Same(rlp.List(deep), deeper) {
		t.Error("a list of it")
	}
	if s, e := rlp.Encode(deeper); s != "" || e != api.ErrArg {
		t.Error(e)
	}
	if _, is := rlp.Value(deeper); is {
		t.Error("value")
	}
}

// R3

func TestListTakesNewMemory(t *testing.T) {
	inner := []api.Item{rlp.Text("a"), rlp.Text("b")}
	kids := []api.Item{rlp.Text("c"), byHand(inner...), rlp.Text("d"), rlp.Text("e")}
	kids[1].Kids = inner
	x := rlp.List(kids[:2]...)
	want := "\xc4c\xc2ab"
	expectBytes(t, x, want)
	kids[0], inner[0], inner[1] = rlp.Text("x"), rlp.Text("y"), rlp.List()
	expectBytes(t, x, want)
	x.Kids[0], x.Kids[1].Kids[0] = rlp.Text("z"), rlp.Text("z")
	_ = append(x.Kids, rlp.Text("z"))
	_ = append(x.Kids[1].Kids, rlp.Text("z"))
	if !rlp.Same(kids[0], rlp.Text("x")) || !rlp.Same(inner[0], rlp.Text("y")) || !rlp.Same(inner[1], rlp.List()) || !rlp.Same(kids[2], rlp.Text("d")) {
		t.Error("written into what was handed in")
	}
}

func TestListOfOneItemTwiceTakesItApart(t *testing.T) {
	one := rlp.List(rlp.Text("a"))
	x := rlp.List(one, one)
	x.Kids[0].Kids[0] = rlp.Text("b")
	expectBytes(t, x, "\xc4\xc1b\xc1a")
	expectBytes(t, one, "\xc1a")
}

func TestDecodeTakesNewMemory(t *testing.T) {
	s := "\xc9\xc3abc\xc0\xc3def"
	x, _, _ := rlp.Decode(s)
	y, _, _ := rlp.Decode(s)
	for i := range x.Kids {
		grown := append(x.Kids[i].Kids, rlp.Text("x"))
		_ = append(grown, rlp.Text("y"))
		for j := range x.Kids[i].Kids {
			x.Kids[i].Kids[j] = rlp.Text("z")
		}
	}
	expectBytes(t, x, "\xc9\xc3zzz\xc0\xc3zzz")
	expectBytes(t, y, s)
	_ = append(x.Kids, rlp.Text("x"))
	x.Kids[0] = rlp.List()
	expectBytes(t, x, "\xc6\xc0\xc0\xc3zzz")
	expectBytes(t, y, s)
}

func TestNothingIsWrittenInto(t *testing.T) {
	kids := []api.Item{rlp.Text("a"), rlp.List(rlp.Text("b"), rlp.List()), rlp.Text("behind")}
	x := byHand(kids[:2]...)
	rlp.Right(x)
	rlp.Encode(x)
	rlp.Same(x, x)
	rlp.Value(x)
	rlp.List(kids[:2]...)
	expectBytes(t, byHand(kids...), "\xcba\xc2b\xc0\x86behind")
}

func expectBytes(t *testing.T, x api.Item, want string) {
	t.Helper()
	if s, e := rlp.Encode(x); s != want || e != api.OK {
		t.Errorf("%x instead of %x, %v", s, want, e)
	}
}
