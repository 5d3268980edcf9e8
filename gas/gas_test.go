package gas_test

import (
	"math"
	"slices"
	"strings"
	"testing"

	"railhead/api"
	"railhead/gas"
	"railhead/word"
)

const most = 1 << 20 // bytes that count

// next is the next one of mixed numbers, which are always the same.
func next(x *uint64) uint64 {
	*x ^= *x >> 12
	*x ^= *x << 25
	*x ^= *x >> 27
	return *x * 2685821657736338717
}

// mixedWords are so many words of all sizes, always the same ones.
func mixedWords(many int) []api.Word {
	x := uint64(88172645463325252)
	var out []api.Word
	for range many {
		w := api.Word{next(&x), next(&x), next(&x), next(&x)}
		for place := next(&x) % 5; place < 4; place++ {
			w[place] = 0
		}
		out = append(out, w)
	}
	return out
}

// power is 2^bits.
func power(bits int) api.Word {
	w := api.Word{}
	w[bits/64] = 1 << (bits % 64)
	return w
}

// counts are numbers of bytes: small ones, those about the edges of words and of what counts, and the greatest ones.
func counts() []int {
	out := []int{math.MinInt, math.MinInt + 1, math.MinInt + 31, math.MaxInt, math.MaxInt - 1, math.MaxInt - 30, math.MaxInt - 31, math.MaxInt - 32}
	for n := -70; n <= 300; n++ {
		out = append(out, n, 1000*32+n, most+n, 1<<31+n, 1<<32+n, 1<<62+n, -(1<<32)+n, -(1<<62)+n)
	}
	return out
}

// bools are both.
func bools() []bool { return []bool{false, true} }

// S1

func TestExpsThatAreKnown(t *testing.T) {
	for i, x := range []struct {
		e    api.Word
		want int
	}{
		{word.Of(0), 0}, {word.Of(1), 50}, {word.Of(255), 50}, {word.Of(256), 100}, {word.Of(65535), 100}, {word.Of(65536), 150},
		{word.Of(0x1000000), 200}, {word.Of(0x1000001), 200}, {word.Of(0xff00ff), 150},
		{api.Word{math.MaxUint64}, 400}, {api.Word{0, 1}, 450}, {api.Word{0, 0, 1}, 850}, {api.Word{0, 0, 0, 1}, 1250}, {api.Word{0, 0, 0, 1 << 56}, 1600}, {api.Word{0, 0, 0, 1<<56 - 1}, 1550}, {word.Of(-1), 1600},
	} {
		if got := gas.Exp(x.e); got != x.want {
			t.Errorf("%d: Exp is %d, not %d", i, got, x.want)
		}
	}
}

func TestExpOfAllSizes(t *testing.T) {
	words := mixedWords(500)
	for bits := range 256 {
		p := power(bits)
		words = append(words, p, word.Sub(p, word.Of(1)), word.Add(p, word.Of(1)))
	}
	for _, w := range words {
		if got, want := gas.Exp(w), exp(w); got != want {
			t.Errorf("Exp(%s) is %d, not %d", word.Hex(w), got, want)
		}
	}
}

func TestCostsOfBytesThatAreKnown(t *testing.T) {
	full := [5]int{98304, 196608, 8388608, 65536, 262144}
	for n, want := range map[int][5]int{
		math.MinInt: {}, -1: {}, 0: {},
		1: {3, 6, 8, 2, 8}, 31: {3, 6, 248, 2, 8}, 32: {3, 6, 256, 2, 8}, 33: {6, 12, 264, 4, 16}, 64: {6, 12, 512, 4, 16}, 65: {9, 18, 520, 6, 24},
		most - 32: {98301, 196602, 8388352, 65534, 262136}, most - 31: {98304, 196608, 8388360, 65536, 262144}, most - 1: {98304, 196608, 8388600, 65536, 262144},
		most: full, most + 1: full, most + 32: full, 1 << 32: full, math.MaxInt - 31: full, math.MaxInt: full,
	} {
		if got := [5]int{gas.Copy(n), gas.Hash(n), gas.Log(n), gas.Init(n, false), gas.Init(n, true)}; got != want {
			t.Errorf("what %d bytes cost is %v, not %v", n, got, want)
		}
	}
}

func TestCostsOfManyNumbersOfBytes(t *testing.T) {
	for _, n := range counts() {
		got := [5]int{gas.Copy(n), gas.Hash(n), gas.Log(n), gas.Init(n, false), gas.Init(n, true)}
		want := [5]int{3 * wordsOf(n), 6 * wordsOf(n), 8 * counted(n), initial(n, false), initial(n, true)}
		if got != want {
			t.Errorf("what %d bytes cost is %v, not %v", n, got, want)
		}
	}
}

// S2

func TestTouch(t *testing.T) {
	for _, slot := range bools() {
		for _, warm := range bools() {
			if got, want := gas.Touch(slot, warm), touch(slot, warm); got != want {
				t.Errorf("Touch(%v, %v) is %d, not %d", slot, warm, got, want)
			}
		}
	}
}

// S3

func TestStoresThatAreKnown(t *testing.T) {
	for i, x := range []struct{ original, current, value, cost, back int }{
		{0, 0, 0, 100, 0}, {0, 0, 1, 20000, 0},
		{0, 1, 0, 100, 19900}, {0, 1, 1, 100, 0}, {0, 1, 2, 100, 0},
		{1, 1, 0, 2900, 4800}, {1, 1, 1, 100, 0}, {1, 1, 2, 2900, 0},
		{1, 0, 0, 100, 0}, {1, 0, 1, 100, -2000}, {1, 0, 2, 100, -4800},
		{1, 2, 0, 100, 4800}, {1, 2, 1, 100, 2800}, {1, 2, 2, 100, 0}, {1, 2, 3, 100, 0},
	} {
		for _, warm := range bools() {
			cost, back := gas.Store(word.Of(x.original), word.Of(x.current), word.Of(x.value), warm)
			want := x.cost
			if !warm {
				want += 2100
			}
			if cost != want || back != x.back {
				t.Errorf("%d, %v: Store is %d, %d, not %d, %d", i, warm, cost, back, want, x.back)
			}
		}
	}
}

// slotWords are words that differ in one part alone, and 0.
func slotWords() []api.Word {
	return []api.Word{{}, {1}, {2}, {0, 1}, {0, 0, 1}, {0, 0, 0, 1}, {0, 0, 0, 2}, {1, 0, 0, 1}, {math.MaxUint64, math.MaxUint64, math.MaxUint64, math.MaxUint64}}
}

func TestStoreOfAllThree(t *testing.T) {
	for _, original := range slotWords() {
		for _, current := range slotWords() {
			for _, value := range slotWords() {
				for _, warm := range bools() {
					expectStore(t, original, current, value, warm)
				}
			}
		}
	}
}

func expectStore(t *testing.T, original, current, value api.Word, warm bool) {
	t.Helper()
	cost, back := gas.Store(original, current, value, warm)
	if want := storeCost(original, current, value, warm); cost != want {
		t.Errorf("Store(%v, %v, %v, %v) costs %d, not %d", original, current, value, warm, cost, want)
	}
	if want := storeBack(original, current, value); back != want {
		t.Errorf("Store(%v, %v, %v, %v) gives back %d, not %d", original, current, value, warm, back, want)
	}
}

// S4

func TestCallsThatAreKnown(t *testing.T) {
	f, y := false, true
	for i, x := range []struct {
		left               int
		asked              api.Word
		warm, value, fresh bool
		cost, own          int
		is                 bool
	}{
		{100, word.Of(5), y, f, f, 100, 0, true},
		{99, word.Of(5), y, f, f, 0, 0, false},
		{163, word.Of(-1), y, f, f, 163, 63, true}, // a rest of 63: its 64th part is 0
		{164, word.Of(-1), y, f, f, 163, 63, true},
		{165, word.Of(-1), y, f, f, 164, 64, true},
		{2600, word.Of(5), f, f, f, 2600, 0, true},
		{2599, word.Of(5), f, f, f, 0, 0, false},
		{6500, word.Of(6299), y, f, f, 6399, 6299, true},
		{6500, word.Of(6300), y, f, f, 6400, 6300, true},
		{6500, word.Of(6301), y, f, f, 6400, 6300, true},
		{9100, word.Of(0), y, y, f, 9100, 2300, true},
		{9099, word.Of(0), y, y, f, 0, 0, false},
		{11600, word.Of(0), f, y, f, 11600, 2300, true},
		{11599, word.Of(0), f, y, f, 0, 0, false},
		{34100, word.Of(9), y, y, y, 34100, 2300, true},
		{34099, word.Of(9), y, y, y, 0, 0, false},
		{36600, word.Of(9), f, y, y, 36600, 2300, true},
		{36599, word.Of(9), f, y, y, 0, 0, false},
		{500, word.Of(9), y, f, y, 109, 9, true}, // who sends nothing founds nothing
		{500, api.Word{0, 1}, y, f, f, 494, 394, true},
		{500, api.Word{0, 0, 0, 1}, y, f, f, 494, 394, true},
		{500, api.Word{1 << 63}, y, f, f, 494, 394, true},
		{500, word.Of(-1), y, f, f, 494, 394, true},
		{1 << 53, word.Of(1), y, f, f, 101, 1, true},
		{1 << 53, word.Of(-1), y, f, f, 1<<53 - (1<<53-100)/64, 1<<53 - 100 - (1<<53-100)/64, true},
		{1<<53 + 1, word.Of(1), y, f, f, 0, 0, false},
		{math.MaxInt, word.Of(1), y, f, f, 0, 0, false},
		{0, word.Of(0), y, f, f, 0, 0, false},
		{-1, word.Of(1), y, f, f, 0, 0, false},
		{math.MinInt, word.Of(1), y, y, y, 0, 0, false},
	} {
		cost, own, is := gas.Call(x.left, x.asked, x.warm, x.value, x.fresh)
		if cost != x.cost || own != x.own || is != x.is {
			t.Errorf("%d: Call is %d, %d, %v, not %d, %d, %v", i, cost, own, is, x.cost, x.own, x.is)
		}
	}
}

// lefts are those about each price, small ones, great ones, and those that may not be.
func lefts() []int {
	out := []int{math.MinInt, math.MinInt + 1, math.MaxInt, 1 << 62, 1 << 40, 2000000}
	for more := -70; more <= 70; more++ {
		for _, price := range []int{0, 100, 2600, 9100, 11600, 34100, 36600, 1 << 53} {
			out = append(out, price+more)
		}
	}
	x := uint64(362436069362436069)
	for range 300 {
		out = append(out, int(next(&x)>>(11+next(&x)%40)))
	}
	return out
}

// askeds are words of all sizes, small ones most of all.
func askeds() []api.Word {
	out := mixedWords(20)
	for _, n := range []int{0, 1, 2, 50, 63, 64, 65, 99, 2300, 3000, 30000, 1 << 52, 1<<53 - 1, 1 << 53, 1<<53 + 1, 1 << 62, math.MaxInt, -1, -5, math.MinInt} {
		out = append(out, word.Of(n))
	}
	return out
}

func TestCallOfAllSizes(t *testing.T) {
	for _, left := range lefts() {
		for _, asked := range askeds() {
			for flags := range 8 {
				expectCall(t, left, asked, flags&1 > 0, flags&2 > 0, flags&4 > 0)
			}
		}
	}
}

func expectCall(t *testing.T, left int, asked api.Word, warm, value, fresh bool) {
	t.Helper()
	cost, own, is := gas.Call(left, asked, warm, value, fresh)
	wantCost, wantOwn, want := call(left, asked, warm, value, fresh)
	if cost != wantCost || own != wantOwn || is != want {
		t.Errorf("Call(%d, %s, %v, %v, %v) is %d, %d, %v, not %d, %d, %v", left, word.Hex(asked), warm, value, fresh, cost, own, is, wantCost, wantOwn, want)
	}
}

func TestCallHasWhatIsLeftForNumbersAboutTheLimit(t *testing.T) {
	for _, left := range []int{500, 6500, 100000, 2000000, 1 << 53} {
		rest := left - 100
		limit := rest - rest/64
		for more := -3; more <= 3; more++ {
			expectCall(t, left, word.Of(limit+more), true, false, false)
		}
	}
}

// S5

func TestStartsThatAreKnown(t *testing.T) {
	full := 21000 + 16*most
	for _, x := range []struct {
		name   string
		data   string
		plain  int
		create int
	}{
		{"none", "", 21000, 53000},
		{"a nought", "\x00", 21004, 53006},
		{"a byte", "a", 21016, 53018},
		{"the greatest byte", "\xff", 21016, 53018},
		{"both", "\x00a", 21020, 53022},
		{"a word", strings.Repeat("a", 32), 21512, 53514},
		{"more than a word", strings.Repeat("a", 33), 21528, 53532},
		{"noughts", strings.Repeat("\x00", 64), 21256, 53260},
		{"no runes", "\xe4\xb8\x96", 21048, 53050},
		{"all but one", strings.Repeat("a", most-1), full - 16, full - 16 + 32000 + 65536},
		{"all", strings.Repeat("a", most), full, full + 32000 + 65536},
		{"one more", strings.Repeat("a", most+1), full, full + 32000 + 65536},
		{"many more", strings.Repeat("a", 3*most), full, full + 32000 + 65536},
		{"noughts, and others behind the end", strings.Repeat("\x00", most) + "aaa", 21000 + 4*most, 21000 + 4*most + 32000 + 65536},
	} {
		if got := [2]int{gas.Start(x.data, false), gas.Start(x.data, true)}; got != [2]int{x.plain, x.create} {
			t.Errorf("%s: Start is %v, not %d, %d", x.name, got, x.plain, x.create)
		}
	}
}

func TestStartOfMixedData(t *testing.T) {
	x := uint64(521288629521288629)
	for many := range 300 {
		data := make([]byte, many)
		for i := range data {
			data[i] = byte(next(&x)>>40) * byte(next(&x)>>40&1)
		}
		for _, create := range bools() {
			if got, want := gas.Start(string(data), create), start(string(data), create); got != want {
				t.Errorf("Start of %d bytes, %v, is %d, not %d", many, create, got, want)
			}
		}
	}
}

func account(at byte) api.Key { return api.Key{At: api.Addr{at}} }

func slot(at byte, n int) api.Key {
	return api.Key{At: api.Addr{at}, Slot: true, Key: word.Of(n)}
}

func TestDeclaredThatAreKnown(t *testing.T) {
	a, b, s, other := account(1), account(2), slot(1, 0), slot(1, 5)
	for i, x := range []struct {
		reads, writes []api.Key
		want          int
	}{
		{nil, nil, 0},
		{[]api.Key{}, []api.Key{}, 0},
		{[]api.Key{a}, nil, 2400},
		{nil, []api.Key{a}, 2400},
		{[]api.Key{s}, nil, 1900},
		{nil, []api.Key{s}, 1900},
		{[]api.Key{a}, []api.Key{a}, 2400},
		{[]api.Key{s}, []api.Key{s}, 1900},
		{[]api.Key{a, a}, nil, 2400},
		{nil, []api.Key{s, s, s}, 1900},
		{[]api.Key{s, a, s}, []api.Key{a, s}, 4300}, // an account is none of its slots
		{[]api.Key{b, a}, []api.Key{a, b}, 4800},
		{[]api.Key{s}, []api.Key{other}, 3800},
		{[]api.Key{slot(1, 5)}, []api.Key{slot(2, 5)}, 3800},
		{[]api.Key{{At: api.Addr{19: 1}}}, []api.Key{{At: api.Addr{18: 1}}}, 4800},
		{[]api.Key{{}}, []api.Key{{Slot: true}}, 4300},
		{[]api.Key{{Slot: true, Key: api.Word{1}}, {Slot: true, Key: api.Word{0, 1}}}, []api.Key{{Slot: true, Key: api.Word{0, 0, 1}}, {Slot: true, Key: api.Word{0, 0, 0, 1}}}, 7600},
		{[]api.Key{{Key: api.Word{1}}}, []api.Key{{}, {Key: api.Word{1}}}, 4800}, // a key that may not be is one, too
	} {
		if got := gas.Declared(api.Sets{Reads: x.reads, Writes: x.writes}); got != x.want {
			t.Errorf("%d: Declared is %d, not %d", i, got, x.want)
		}
	}
}

// mixedKeys are so many keys, of few accounts and slots, so that most are there several times.
func mixedKeys(x *uint64, many int) []api.Key {
	var out []api.Key
	for range many {
		k := api.Key{At: api.Addr{byte(next(x) >> 60), 19: byte(next(x) >> 62)}, Slot: next(x)>>63 > 0}
		if k.Slot {
			k.Key = power(int(next(x) >> 56))
		}
		out = append(out, k)
	}
	return out
}

func TestDeclaredOfMixedKeys(t *testing.T) {
	x := uint64(123456789123456789)
	for many := range 60 {
		s := api.Sets{Reads: mixedKeys(&x, many*3), Writes: mixedKeys(&x, 90-many)}
		if got, want := gas.Declared(s), declared(s); got != want {
			t.Errorf("Declared of %d keys is %d, not %d", many*2+90, got, want)
		}
	}
}

func TestDeclaredOfMoreThanMayBe(t *testing.T) {
	var keys []api.Key
	for n := range 100000 {
		keys = append(keys, slot(1, n), account(byte(n)))
	}
	if got := gas.Declared(api.Sets{Reads: keys, Writes: keys}); got != 100000*1900+256*2400 {
		t.Errorf("Declared of many keys is %d", got)
	}
}

func TestDeclaredLeavesListsAsTheyAre(t *testing.T) {
	keys := []api.Key{slot(2, 1), account(1), slot(2, 1), account(3), account(3)}
	was := slices.Clone(keys)
	gas.Declared(api.Sets{Reads: keys[:3], Writes: keys[1:2]})
	if !slices.Equal(keys, was) {
		t.Error("what was handed in was written into")
	}
}

func TestBacksThatAreKnown(t *testing.T) {
	for i, x := range [][3]int{
		{100, 50, 20}, {100, 21, 20}, {100, 20, 20}, {100, 19, 19}, {100, 1, 1}, {100, 0, 0}, {100, -1, 0}, {100, -5, 0}, {100, math.MinInt, 0},
		{0, 9, 0}, {4, 9, 0}, {5, 9, 1}, {9, 9, 1}, {10, 9, 2}, {104, 50, 20}, {105, 50, 21},
		{-1, 9, 0}, {-5, 9, 0}, {-50, 9, 0}, {-50, -9, 0}, {-50, -11, 0}, {math.MinInt, 9, 0}, {math.MinInt, math.MinInt, 0}, {math.MinInt, math.MaxInt, 0},
		{math.MaxInt, math.MaxInt, math.MaxInt / 5}, {math.MaxInt, math.MinInt, 0}, {math.MaxInt, 7, 7},
	} {
		if got := gas.Back(x[0], x[1]); got != x[2] {
			t.Errorf("%d: Back(%d, %d) is %d, not %d", i, x[0], x[1], got, x[2])
		}
	}
}

func TestBackOfManyNumbers(t *testing.T) {
	for used := -30; used <= 120; used++ {
		for refund := -30; refund <= 30; refund++ {
			if got, want := gas.Back(used, refund), back(used, refund); got != want {
				t.Errorf("Back(%d, %d) is %d, not %d", used, refund, got, want)
			}
		}
	}
	for _, used := range lefts() {
		for _, refund := range lefts() {
			if got, want := gas.Back(used, refund), back(used, refund); got != want {
				t.Errorf("Back(%d, %d) is %d, not %d", used, refund, got, want)
			}
		}
	}
}

// S6

// writing is what who writes has done to a slot.
type writing struct {
	original, current api.Word
	writes            int
	paid, back        int
	coldly            bool
}

// goOn writes each of few values, again and again, and holds the theorem behind each one.
func goOn(t *testing.T, w writing, more int) {
	if w.back < 0 {
		t.Fatalf("what is given back in all is %d: %v", w.back, w)
	}
	if w.current == w.original && w.paid-w.back > w.most() {
		t.Fatalf("paid %d, and given back %d, which is more than %d: %v", w.paid, w.back, w.most(), w)
	}
	if more == 0 {
		return
	}
	for n := range 4 {
		value := word.Of(n)
		cost, back := gas.Store(w.original, w.current, value, !w.coldly || w.writes > 0)
		after := w
		after.current = value
		after.writes++
		after.paid += cost
		after.back += back
		goOn(t, after, more-1)
	}
}

// most is what is paid for touching the slot, and 100 each time.
func (w writing) most() int {
	if w.coldly && w.writes > 0 {
		return 2100 + 100*w.writes
	}
	return 100 * w.writes
}

func TestWhoWritesBackPaysForTouching(t *testing.T) {
	for n := range 2 {
		for _, coldly := range bools() {
			goOn(t, writing{original: word.Of(n), current: word.Of(n), coldly: coldly}, 7)
		}
	}
}

func TestCallNeverCostsMoreThanIsLeft(t *testing.T) {
	for _, left := range lefts() {
		for _, asked := range askeds() {
			for flags := range 8 {
				cost, own, is := gas.Call(left, asked, flags&1 > 0, flags&2 > 0, flags&4 > 0)
				if cost < 0 || own < 0 || cost > max(left, 0) || !is && (cost > 0 || own > 0) {
					t.Fatalf("Call(%d, %s, %b) is %d, %d, %v", left, word.Hex(asked), flags, cost, own, is)
				}
			}
		}
	}
}
