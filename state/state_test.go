package state_test

import (
	"math"
	"slices"
	"strings"
	"testing"

	"railhead/api"
	"railhead/state"
	"railhead/word"
)

// slotsOf is a list of these keys with these values.
func slotsOf(l ...int) []api.Slot {
	var out []api.Slot
	for i := 0; i < len(l); i += 2 {
		out = append(out, api.Slot{Key: word.Of(l[i]), Value: word.Of(l[i+1])})
	}
	return out
}

// slotRow are so many slots, of the keys 0, 2, 4 and so on.
func slotRow(many int) []api.Slot {
	var out []api.Slot
	for i := range many {
		out = append(out, api.Slot{Key: word.Of(2 * i), Value: word.Of(1)})
	}
	return out
}

// row are so many accounts; between any two, ahead of all and behind all, there is place for one more.
func row(many int) []api.Account {
	var out []api.Account
	for i := range many {
		out = append(out, api.Account{At: place(2*i + 1), Nonce: 1})
	}
	return out
}

// place is one of addresses in order.
func place(i int) api.Addr { return api.Addr{4: byte(i >> 8), 19: byte(i)} }

// few are three accounts, each of another kind.
func few() []api.Account {
	return []api.Account{
		{At: api.Addr{1}, Balance: word.Of(5)},
		{At: api.Addr{1, 1}, Balance: word.Of(6), Nonce: 1, Code: "ab", Slots: slotsOf(1, 2, 3, 4)},
		{At: api.Addr{2}, Slots: slotsOf(7, 7)},
	}
}

// wrongAccounts are those that may not be.
func wrongAccounts(at api.Addr) []api.Account {
	return []api.Account{
		{At: at, Nonce: -1},
		{At: at, Nonce: math.MinInt},
		{At: at, Nonce: 1<<53 + 1},
		{At: at, Nonce: math.MaxInt},
		{At: at, Code: strings.Repeat("a", 24577)},
		{At: at, Nonce: 1, Slots: slotsOf(1, 0)},
		{At: at, Slots: slotsOf(1, 1, 1, 1)},
		{At: at, Slots: slotsOf(2, 1, 1, 1)},
		{At: at, Slots: slotRow(1001)},
	}
}

// greatAccounts are those that may just be.
func greatAccounts(at api.Addr) []api.Account {
	return []api.Account{
		{At: at, Nonce: 1 << 53},
		{At: at, Code: strings.Repeat("a", 24576)},
		{At: at, Slots: slotRow(1000)},
		{At: at, Balance: word.Of(-1)},
		{At: at, Balance: word.Of(-1), Nonce: 1 << 53, Code: strings.Repeat("\x00", 24576), Slots: slotRow(1000)},
	}
}

// wrongStates are accounts that may not be a state.
func wrongStates() [][]api.Account {
	out := [][]api.Account{
		row(201),
		row(5000),
		{{}},
		{{At: api.Addr{1}}},
		{{Nonce: 1}, {Nonce: 1}},
		{{Nonce: 1}, {Nonce: 2}},
		{{At: api.Addr{1}, Nonce: 1}, {At: api.Addr{0, 1}, Nonce: 1}},
		{{At: api.Addr{1}, Nonce: 1}, {At: api.Addr{2}, Nonce: 1}, {At: api.Addr{1}, Nonce: 1}},
	}
	for _, x := range wrongAccounts(api.Addr{1, 5}) {
		out = append(out, []api.Account{x}, []api.Account{few()[0], x}, []api.Account{x, few()[2]})
	}
	return out
}

// H1

func TestEmpty(t *testing.T) {
	for i, x := range []api.Account{{}, {At: api.Addr{4}}, {At: api.Addr{19: 255}, Slots: []api.Slot{}}, {Slots: slotRow(3)[:0]}} {
		if !state.Empty(x) {
			t.Error(i)
		}
	}
	for i, x := range []api.Account{
		{Balance: word.Of(1)},
		{Balance: api.Word{0, 1}},
		{Balance: api.Word{0, 0, 1}},
		{Balance: api.Word{0, 0, 0, 1 << 63}},
		{Nonce: 1},
		{Nonce: -1},
		{Nonce: math.MinInt},
		{Code: "\x00"},
		{Code: strings.Repeat("a", 1<<20)},
		{Slots: slotsOf(1, 1)},
		// Slots that may not be are some.
		{Slots: slotsOf(0, 0)},
		{Slots: slotRow(1001)},
	} {
		if state.Empty(x) {
			t.Error(i)
		}
	}
}

func TestRightOfHowMany(t *testing.T) {
	for many, want := range map[int]bool{0: true, 1: true, 199: true, 200: true, 201: false, 5000: false} {
		if state.Right(row(many)) != want {
			t.Error(many)
		}
	}
	if !state.Right([]api.Account{}) || !state.Right(few()) {
		t.Error("few")
	}
}

func TestRightOfAccounts(t *testing.T) {
	// What is wrong is found wherever it is.
	for i := range 30 {
		with := func(x api.Account) []api.Account {
			s := row(30)
			s[i] = x
			return s
		}
		at := place(2*i + 1)
		for j, x := range wrongAccounts(at) {
			if state.Right(with(x)) {
				t.Error(i, j)
			}
		}
		for j, x := range greatAccounts(at) {
			if !state.Right(with(x)) {
				t.Error(i, j)
			}
		}
		if state.Right(with(api.Account{At: at})) || state.Right(with(api.Account{At: at, Slots: []api.Slot{}})) {
			t.Error(i, "empty")
		}
	}
}

func TestRightOfAddresses(t *testing.T) {
	for i := range 30 {
		s := row(30)
		s[i].At = api.Addr{255}
		if state.Right(s) != (i == 29) {
			t.Error(i, "greater")
		}
		s[i].At = api.Addr{}
		if state.Right(s) != (i == 0) {
			t.Error(i, "less")
		}
		s = row(30)
		s[i] = s[max(i, 1)-1]
		if state.Right(s) != (i == 0) {
			t.Error(i, "twice")
		}
	}
	// Each byte tells, those behind it the other way round, as bytes without a sign.
	for i := range 20 {
		var less, greater api.Addr
		less[i], greater[i] = 127, 128
		for j := i + 1; j < 20; j++ {
			less[j] = 255
		}
		a, b := api.Account{At: less, Nonce: 1}, api.Account{At: greater, Nonce: 1}
		if !state.Right([]api.Account{a, b}) || state.Right([]api.Account{b, a}) {
			t.Error(i)
		}
	}
}

func TestSame(t *testing.T) {
	for i, change := range []func(s []api.Account) []api.Account{
		func(s []api.Account) []api.Account { s[0].At[0] ^= 128; return s },
		func(s []api.Account) []api.Account { s[2].At[19] ^= 1; return s },
		func(s []api.Account) []api.Account { s[0].Balance[3]++; return s },
		func(s []api.Account) []api.Account { s[1].Nonce++; return s },
		func(s []api.Account) []api.Account { s[1].Code = "aB"; return s },
		func(s []api.Account) []api.Account { s[1].Code = "ab\x00"; return s },
		func(s []api.Account) []api.Account { s[1].Slots[0].Key[2]++; return s },
		func(s []api.Account) []api.Account { s[1].Slots[1].Value[1]++; return s },
		func(s []api.Account) []api.Account { s[1].Slots = s[1].Slots[:1]; return s },
		func(s []api.Account) []api.Account { s[1].Slots = slotsOf(1, 2, 3, 4, 5, 6); return s },
		func(s []api.Account) []api.Account { s[1].Slots = slotsOf(3, 4, 1, 2); return s },
		func(s []api.Account) []api.Account { s[2].Slots = nil; return s },
		func(s []api.Account) []api.Account { s[0], s[1] = s[1], s[0]; return s },
		func(s []api.Account) []api.Account { return s[:2] },
		func(s []api.Account) []api.Account { return s[1:] },
		func(s []api.Account) []api.Account { return append(s, api.Account{}) },
		func(s []api.Account) []api.Account { return append(s, s[2]) },
		func(s []api.Account) []api.Account { return nil },
	} {
		s := change(few())
		if state.Same(s, few()) || state.Same(few(), s) || !state.Same(s, change(few())) {
			t.Error(i)
		}
	}
	s := few()
	s[0].Slots = []api.Slot{}
	if !state.Same(s, few()) || !state.Same(few(), s) || !state.Same(nil, []api.Account{}) {
		t.Error("lists without elements")
	}
	for i, s := range wrongStates() {
		if !state.Same(s, wrongStates()[i]) || state.Same(s, few()) {
			t.Error(i)
		}
	}
}

// H2

func TestFind(t *testing.T) {
	for _, x := range few() {
		if y := state.Find(few(), x.At); tell(y) != tell(x) {
			t.Error(tell(y))
		}
	}
	for _, s := range [][]api.Account{nil, few(), row(200), row(5000)} {
		for _, at := range []api.Addr{{}, {3}, {1, 2}, {1, 19: 1}, {255, 255}} {
			if x := state.Find(s, at); x.At != at || !state.Empty(x) {
				t.Error(tell(x))
			}
		}
	}
}

func TestFindOfWhatIsNoState(t *testing.T) {
	for i, s := range wrongStates() {
		for _, x := range s {
			if y := state.Find(s, x.At); tell(y) != tell(found(s, x.At)) {
				t.Error(i, y.At)
			}
		}
	}
	// The first one tells it, wherever the others stand, and whatever they are.
	s := []api.Account{{At: api.Addr{9}, Nonce: -7}, {At: api.Addr{5}}, {At: api.Addr{9}, Nonce: 2}, {At: api.Addr{5}, Nonce: 3}, {At: api.Addr{1}, Slots: slotsOf(3, 0, 1, 1)}}
	for at, want := range map[byte]api.Account{9: s[0], 5: s[1], 1: s[4], 2: {At: api.Addr{2}}} {
		if x := state.Find(s, api.Addr{at}); tell(x) != tell(want) {
			t.Error(tell(x))
		}
	}
}

// H3

func TestSetAtEachPlace(t *testing.T) {
	for _, many := range []int{0, 1, 2, 9} {
		s := row(many)
		for i := range 2*many + 1 {
			for _, x := range append(greatAccounts(place(i)), api.Account{At: place(i)}) {
				expectSet(t, s, x)
			}
		}
	}
	s, e := state.Set(few(), api.Account{At: api.Addr{1, 1}, Nonce: 9})
	want := few()
	want[1] = api.Account{At: api.Addr{1, 1}, Nonce: 9}
	if !state.Same(s, want) || e != api.OK {
		t.Error("all of it is another's", short(s))
	}
	s, e = state.Set(few()[:1], api.Account{At: api.Addr{1}})
	if len(s) != 0 || e != api.OK {
		t.Error("none is left", short(s))
	}
}

func TestSetOfWhatMayNotBe(t *testing.T) {
	expectNone := func(s []api.Account, x api.Account, want api.Errno) {
		t.Helper()
		if out, e := state.Set(s, x); len(out) != 0 || e != want {
			t.Error(tell(x)[:40], len(out), e)
		}
	}
	for _, s := range wrongStates() {
		// Not even what would mend it is done.
		for _, y := range s {
			expectNone(s, api.Account{At: y.At, Nonce: 1}, api.ErrArg)
			expectNone(s, api.Account{At: y.At}, api.ErrArg)
		}
		expectNone(s, few()[0], api.ErrArg)
		expectNone(s, api.Account{At: api.Addr{77}}, api.ErrArg)
	}
	// ErrArg goes ahead of ErrLong.
	for _, s := range [][]api.Account{nil, few(), row(199), row(200)} {
		for _, at := range []api.Addr{{}, {1, 1}, place(1), place(2)} {
			for _, x := range wrongAccounts(at) {
				expectNone(s, x, api.ErrArg)
			}
		}
	}
	for _, x := range greatAccounts(api.Addr{7}) {
		expectNone(row(200), x, api.ErrLong)
	}
}

func TestSetOfTooMany(t *testing.T) {
	for many, want := range map[int]api.Errno{198: api.OK, 199: api.OK, 200: api.ErrLong} {
		for _, i := range []int{0, 2, 200, 394, 396, 9000} {
			s, e := state.Set(row(many), api.Account{At: place(i), Nonce: 1})
			if e != want || e == api.OK && (len(s) != many+1 || !state.Right(s)) {
				t.Error(many, i, len(s), e)
			}
			// Where there is nothing, nothing is one less, nor one more.
			s, e = state.Set(row(many), api.Account{At: place(i)})
			if e != api.OK || !state.Same(s, row(many)) {
				t.Error(many, i, len(s), e)
			}
		}
	}
	for _, i := range []int{0, 1, 100, 199} {
		expectSet(t, row(200), api.Account{At: place(2*i + 1), Nonce: 2})
		expectSet(t, row(200), api.Account{At: place(2*i + 1)})
	}
}

// H4

// noisy is a change all of whose fields tell something.
func noisy(kind int, at api.Addr) api.Change {
	return api.Change{Kind: kind, At: at, Key: word.Of(3), Value: word.Of(9), Nonce: 8, Code: "new"}
}

func TestDoOfEachKind(t *testing.T) {
	at := api.Addr{1, 1}
	for kind, x := range map[int]struct {
		is   api.Account
		undo api.Change
	}{
		api.SetBalance: {api.Account{At: at, Balance: word.Of(9), Nonce: 1, Code: "ab", Slots: slotsOf(1, 2, 3, 4)}, api.Change{Kind: 1, At: at, Value: word.Of(6)}},
		api.SetNonce:   {api.Account{At: at, Balance: word.Of(6), Nonce: 8, Code: "ab", Slots: slotsOf(1, 2, 3, 4)}, api.Change{Kind: 2, At: at, Nonce: 1}},
		api.SetCode:    {api.Account{At: at, Balance: word.Of(6), Nonce: 1, Code: "new", Slots: slotsOf(1, 2, 3, 4)}, api.Change{Kind: 3, At: at, Code: "ab"}},
		api.SetSlot:    {api.Account{At: at, Balance: word.Of(6), Nonce: 1, Code: "ab", Slots: slotsOf(1, 2, 3, 9)}, api.Change{Kind: 4, At: at, Key: word.Of(3), Value: word.Of(4)}},
	} {
		s, undo, e := state.Do(few(), noisy(kind, at))
		want := few()
		want[1] = x.is
		if !state.Same(s, want) || undo != x.undo || e != api.OK {
			t.Error(kind, short(s), undo, e)
		}
		s, undo, e = state.Do(s, undo)
		if !state.Same(s, few()) || undo.Kind != kind || e != api.OK {
			t.Error(kind, short(s), undo, e)
		}
	}
}

func TestDoMakesAnAccountAndTakesItAway(t *testing.T) {
	// The chapter's example, and the like of all kinds.
	for kind := 1; kind <= 4; kind++ {
		for _, at := range []api.Addr{{}, {5}, {19: 255}} {
			c := noisy(kind, at)
			s, undo, e := state.Do(nil, c)
			back := api.Change{Kind: kind, At: at}
			if kind == api.SetSlot {
				back.Key = c.Key
			}
			if len(s) != 1 || s[0].At != at || undo != back || e != api.OK {
				t.Error(kind, short(s), undo, e)
			}
			if s, undo, e = state.Do(s, undo); len(s) != 0 || e != api.OK {
				t.Error(kind, short(s), undo, e)
			}
			// What was nothing, and is nothing, can be done too.
			if s, undo, e = state.Do(few(), back); !state.Same(s, few()) || undo != back || e != api.OK {
				t.Error(kind, short(s), undo, e)
			}
		}
	}
	s, undo, e := state.Do(nil, api.Change{Kind: api.SetBalance, At: api.Addr{7}, Value: word.Of(5)})
	if tellAll(s) != tell(api.Account{At: api.Addr{7}, Balance: word.Of(5)}) || undo != (api.Change{Kind: api.SetBalance, At: api.Addr{7}}) || e != api.OK {
		t.Error(short(s), undo, e)
	}
}

// expectUndone holds Do against an error, with which nothing is done.
func expectUndone(t *testing.T, s []api.Account, c api.Change, want api.Errno) {
	t.Helper()
	out, undo, e := state.Do(s, c)
	if !state.Same(out, s) || undo != (api.Change{}) || e != want {
		t.Error(c.Kind, short(out), undo, e)
	}
}

func TestDoOfNoKind(t *testing.T) {
	for _, kind := range []int{0, 5, -1, 6, 8, 1 << 32, 1<<32 + 1, math.MaxInt, math.MinInt} {
		for _, s := range [][]api.Account{nil, few(), row(200), row(201)} {
			expectUndone(t, s, noisy(kind, api.Addr{1}), api.ErrArg)
			expectUndone(t, s, api.Change{Kind: kind}, api.ErrArg)
		}
	}
}

func TestDoOfWhatIsNoState(t *testing.T) {
	for _, s := range wrongStates() {
		for kind := range 6 {
			expectUndone(t, s, noisy(kind, api.Addr{77}), api.ErrArg)
			expectUndone(t, s, noisy(kind, s[0].At), api.ErrArg)
			expectUndone(t, s, api.Change{Kind: kind, At: s[0].At}, api.ErrArg)
		}
	}
}

func TestDoOfWhatMayNotBe(t *testing.T) {
	for _, s := range [][]api.Account{nil, few(), row(200)} {
		for _, at := range []api.Addr{{1}, {77}, place(1)} {
			for _, nonce := range []int{-1, math.MinInt, 1<<53 + 1, math.MaxInt} {
				expectUndone(t, s, api.Change{Kind: api.SetNonce, At: at, Nonce: nonce}, api.ErrArg)
			}
			for _, many := range []int{24577, 1 << 20} {
				expectUndone(t, s, api.Change{Kind: api.SetCode, At: at, Code: strings.Repeat("a", many)}, api.ErrArg)
			}
		}
		// What is not of its kind makes no difference.
		for _, kind := range []int{api.SetBalance, api.SetSlot} {
			c := api.Change{Kind: kind, At: place(1), Nonce: -1, Code: strings.Repeat("a", 24577), Value: word.Of(1)}
			if _, _, e := state.Do(s, c); e != api.OK {
				t.Error(kind, e)
			}
		}
	}
	for _, c := range []api.Change{{Kind: api.SetNonce, Nonce: 1 << 53, At: api.Addr{1}}, {Kind: api.SetCode, Code: strings.Repeat("a", 24576), At: api.Addr{1}}} {
		if s := expectDo(t, few(), c); !state.Right(s) || state.Same(s, few()) {
			t.Error(c.Kind)
		}
	}
}

func TestDoOfTooMany(t *testing.T) {
	for kind := 1; kind <= 4; kind++ {
		for _, i := range []int{0, 2, 200, 9000} {
			expectUndone(t, row(200), noisy(kind, place(i)), api.ErrLong)
			if s := expectDo(t, row(199), noisy(kind, place(i))); len(s) != 200 {
				t.Error(kind, i, len(s))
			}
			if s := expectDo(t, row(200), api.Change{Kind: kind, At: place(i)}); len(s) != 200 {
				t.Error(kind, i, len(s))
			}
		}
		if s := expectDo(t, row(200), noisy(kind, place(1))); len(s) != 200 {
			t.Error(kind, len(s))
		}
	}
	if s := expectDo(t, row(200), api.Change{Kind: api.SetNonce, At: place(1)}); len(s) != 199 {
		t.Error(len(s))
	}
}

func TestDoOfTooManySlots(t *testing.T) {
	s := []api.Account{{At: api.Addr{1}, Slots: slotRow(1000)}, {At: api.Addr{2}, Slots: slotRow(999)}}
	for _, key := range []int{1, 999, 1999, 5000, -1} {
		c := api.Change{Kind: api.SetSlot, At: api.Addr{1}, Key: word.Of(key), Value: word.Of(1)}
		expectUndone(t, s, c, api.ErrLong)
		c.At = api.Addr{2}
		if out := expectDo(t, s, c); len(out[1].Slots) != 1000 {
			t.Error(key, len(out[1].Slots))
		}
		c.At, c.Value = api.Addr{1}, api.Word{}
		if out := expectDo(t, s, c); len(out[0].Slots) != 1000 {
			t.Error(key, len(out[0].Slots))
		}
	}
	for _, value := range []int{0, 1, 2} {
		expectDo(t, s, api.Change{Kind: api.SetSlot, At: api.Addr{1}, Key: word.Of(998), Value: word.Of(value)})
	}
}

// H5

func TestDigestOfNone(t *testing.T) {
	// What is known of it from elsewhere: it is the hash of a list of nothing.
	want := "\x1d\xcc\x4d\xe8\xde\xc7\x5d\x7a\xab\x85\xb5\x67\xb6\xcc\xd4\x1a\xd3\x12\x45\x1b\x94\x8a\x74\x13\xf0\xa1\x42\xfd\x40\xd4\x93\x47"
	for _, s := range [][]api.Account{nil, {}} {
		if d, e := state.Digest(s); d != want || e != api.OK {
			t.Errorf("%x %d", d, e)
		}
	}
}

// expectDigest holds Digest against the chapter.
func expectDigest(t *testing.T, s []api.Account, want api.Errno) {
	t.Helper()
	d, e := state.Digest(s)
	told, f := digest(s)
	if d != told || e != want || f != want {
		t.Errorf("%x %d, not %x %d", d, e, told, f)
	}
}

func TestDigest(t *testing.T) {
	for _, s := range [][]api.Account{few(), few()[1:2], row(1), row(7), row(200)} {
		expectDigest(t, s, api.OK)
	}
	at := api.Addr{1, 2, 3}
	for _, n := range []int{1, 127, 128, 255, 256, 65535, 65536, 1 << 52, 1 << 53} {
		expectDigest(t, []api.Account{{At: at, Nonce: n}}, api.OK)
		expectDigest(t, []api.Account{{At: at, Balance: word.Of(n)}}, api.OK)
		expectDigest(t, []api.Account{{At: at, Balance: word.Of(-n)}}, api.OK)
		expectDigest(t, []api.Account{{At: at, Code: strings.Repeat("c", min(n, 24576))}}, api.OK)
		expectDigest(t, []api.Account{{At: at, Slots: slotsOf(0, n, n, -n, -n, n)}}, api.OK)
	}
	for _, code := range []string{"\x00", "\x7f", "\x80", "\x00\x00"} {
		expectDigest(t, []api.Account{{At: at, Code: code}}, api.OK)
	}
}

func TestDigestOfWhatIsNoState(t *testing.T) {
	for _, s := range wrongStates() {
		expectDigest(t, s, api.ErrArg)
	}
}

func TestDigestOfTooManyItems(t *testing.T) {
	// One of all, six an account, three a slot: 1 and 12 and 4986 are 4999; with a slot more they are 5002.
	s := func(many int) []api.Account {
		return []api.Account{{At: api.Addr{1}, Slots: slotRow(1000)}, {At: api.Addr{2}, Slots: slotRow(many)}}
	}
	expectDigest(t, s(661), api.OK)
	expectDigest(t, s(662), api.OK)
	expectDigest(t, s(663), api.ErrArg)
	expectDigest(t, s(1000), api.ErrArg)
	// Of too many and too long both, too many goes ahead.
	expectDigest(t, slices.Concat(s(1000), long(1<<20+1)), api.ErrArg)
}

// long are accounts whose state has so many bytes.
func long(many int) []api.Account {
	var s []api.Account
	for i := range 43 {
		s = append(s, api.Account{At: api.Addr{3, byte(i)}, Code: strings.Repeat("a", 24360)})
	}
	last := &s[len(s)-1]
	last.Code = strings.Repeat("a", 24360+many-len(stateBytes(s)))
	return s
}

func TestDigestOfTooLong(t *testing.T) {
	for many, want := range map[int]api.Errno{1<<20 - 1: api.OK, 1 << 20: api.OK, 1<<20 + 1: api.ErrLong} {
		s := long(many)
		if len(stateBytes(s)) != many || !state.Right(s) {
			t.Fatal(many, len(stateBytes(s)))
		}
		expectDigest(t, s, want)
	}
	var s []api.Account
	for i := range 200 {
		s = append(s, api.Account{At: api.Addr{byte(i)}, Code: strings.Repeat("a", 24576)})
	}
	expectDigest(t, s, api.ErrLong)
}

// R3

// answers are the states that the calls tell of one, some of which change nothing, and some of which are errors.
func answers(s []api.Account, x api.Account) [][]api.Account {
	var out [][]api.Account
	set := func(s []api.Account, _ api.Errno) { out = append(out, s) }
	do := func(s []api.Account, _ api.Change, _ api.Errno) { out = append(out, s) }
	for _, at := range []api.Addr{{}, {1}, {1, 1}, {2}, {9}} {
		x.At = at
		set(state.Set(s, x))
		set(state.Set(s, api.Account{At: at}))
		for kind := range 6 {
			do(state.Do(s, noisy(kind, at)))
			do(state.Do(s, api.Change{Kind: kind, At: at}))
		}
		do(state.Do(s, api.Change{Kind: api.SetNonce, At: at, Nonce: -1}))
		out = append(out, []api.Account{state.Find(s, at)})
	}
	return out
}

// scribble writes into all that there is of accounts, and behind it.
func scribble(s []api.Account) {
	for i, x := range s {
		for j := range x.Slots {
			x.Slots[j] = api.Slot{Key: word.Of(-5), Value: word.Of(-5)}
		}
		_ = append(x.Slots, slotsOf(-6, -6, -7, -7)...)
		s[i] = api.Account{At: api.Addr{66}, Nonce: -6}
	}
	_ = append(s, api.Account{Nonce: -7}, api.Account{Nonce: -8})
}

func TestAnswersAreNewMemory(t *testing.T) {
	// What is handed in has more behind its length, of itself and of its slots.
	whole := append(few(), api.Account{At: api.Addr{100}, Nonce: 5})
	whole[1].Slots = append(whole[1].Slots, slotsOf(80, 80)...)
	mine := slotsOf(5, 5, 6, 6, 70, 70)
	x := api.Account{Nonce: 3, Slots: mine[:2]}
	handed := whole[:3]
	handed[1].Slots = whole[1].Slots[:2]
	asIs := func() string {
		behind := whole[1]
		behind.Slots = whole[1].Slots[:3]
		return tellAll(whole) + tell(behind) + tell(api.Account{Slots: mine})
	}
	was := asIs()
	first, second := answers(handed, x), answers(handed, x)
	var told []string
	for _, s := range second {
		told = append(told, tellAll(s))
	}
	for i := range first {
		scribble(first[i])
		for j := range first {
			if j > i && tellAll(first[j]) != told[j] || tellAll(second[j]) != told[j] {
				t.Fatal(i, j, "another answer is changed")
			}
		}
		if asIs() != was {
			t.Fatal(i, "what was handed in is changed")
		}
	}
	scribble(whole)
	scribble([]api.Account{{Slots: mine}})
	for j := range second {
		if tellAll(second[j]) != told[j] {
			t.Fatal(j, "what was handed in is kept")
		}
	}
}

func TestListsOfOneAnswerShareNone(t *testing.T) {
	// All accounts that are handed in hold one list of slots, with room behind it.
	one := slotsOf(1, 1, 2, 2, 3, 3)[:2]
	s := row(5)
	for i := range s {
		s[i].Slots = one
	}
	for _, out := range answers(s, api.Account{Slots: one}) {
		for i := range out {
			was := tellAll(out[i+1:])
			scribble(out[i : i+1 : i+1])
			if tellAll(out[i+1:]) != was {
				t.Fatal(i)
			}
		}
	}
	if tell(api.Account{Slots: one[:3]}) != tell(api.Account{Slots: slotsOf(1, 1, 2, 2, 3, 3)}) {
		t.Error("what was handed in is changed")
	}
}

func TestNothingIsWrittenIntoByWhatOnlyTells(t *testing.T) {
	for i, s := range append(wrongStates(), few(), row(200)) {
		was := tellAll(s)
		state.Right(s)
		state.Same(s, s)
		state.Empty(s[0])
		state.Digest(s)
		state.Find(s, s[0].At)
		if tellAll(s) != was {
			t.Error(i)
		}
	}
}
