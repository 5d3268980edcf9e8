package state_test

import (
	"fmt"
	"maps"
	"math/big"
	"slices"
	"strconv"
	"strings"
	"testing"

	"railhead/api"
	"railhead/keccak"
	"railhead/state"
)

// What follows says what the chapter says, one sentence behind the other, by maps, texts and numbers of another kind.

// number is a word's number.
func number(w api.Word) *big.Int {
	n := new(big.Int)
	for _, part := range slices.Backward(w[:]) {
		n.Add(n.Lsh(n, 64), new(big.Int).SetUint64(part))
	}
	return n
}

// slotsMayBe is what chapter 7 promises of Right.
func slotsMayBe(l []api.Slot) bool {
	for i, s := range l {
		if s.Value == (api.Word{}) || i > 0 && number(l[i-1].Key).Cmp(number(s.Key)) >= 0 {
			return false
		}
	}
	return len(l) <= 1000
}

// mayBe is what the chapter's words tell of an account.
func mayBe(x api.Account) bool {
	return x.Nonce >= 0 && x.Nonce <= 9007199254740992 && len(x.Code) <= 24576 && slotsMayBe(x.Slots)
}

// nothing is what Empty promises.
func nothing(x api.Account) bool { return tell(x) == tell(api.Account{At: x.At}) }

// tell is all that there is of an account, as a text.
func tell(x api.Account) string {
	out := fmt.Appendf(nil, "%x %d %d %s", x.At, x.Nonce, len(x.Code), x.Code)
	out = tellWord(out, x.Balance)
	for _, slot := range x.Slots {
		out = tellWord(tellWord(out, slot.Key), slot.Value)
	}
	return string(out)
}

// tellWord does not go by fmt: there are many slots.
func tellWord(out []byte, w api.Word) []byte {
	for _, part := range w {
		out = strconv.AppendUint(append(out, ' '), part, 16)
	}
	return out
}

// tellAll is all that there is of accounts, as a text.
func tellAll(s []api.Account) string {
	var lines []string
	for _, x := range s {
		lines = append(lines, tell(x))
	}
	return strings.Join(lines, "\n")
}

// right is what Right promises: of each address all those ahead are less, not only the one ahead.
func right(s []api.Account) bool {
	for i, x := range s {
		for _, y := range s[:i] {
			if string(y.At[:]) >= string(x.At[:]) {
				return false
			}
		}
		if !mayBe(x) || nothing(x) {
			return false
		}
	}
	return len(s) <= 200
}

// byAddress are a right state's accounts by their addresses.
func byAddress(s []api.Account) map[api.Addr]api.Account {
	m := map[api.Addr]api.Account{}
	for _, x := range s {
		m[x.At] = x
	}
	return m
}

// found is what Find promises.
func found(s []api.Account, at api.Addr) api.Account {
	i := slices.IndexFunc(s, func(x api.Account) bool { return x.At == at })
	if i < 0 {
		return api.Account{At: at}
	}
	return s[i]
}

// set is what Set promises.
func set(s []api.Account, x api.Account) ([]api.Account, api.Errno) {
	if !right(s) || !mayBe(x) {
		return nil, api.ErrArg
	}
	m := byAddress(s)
	m[x.At] = x
	if nothing(x) {
		delete(m, x.At)
	}
	if len(m) > 200 {
		return nil, api.ErrLong
	}
	return slices.SortedFunc(maps.Values(m), func(a, b api.Account) int { return strings.Compare(string(a.At[:]), string(b.At[:])) }), api.OK
}

// slotsWith is what chapter 7 promises of Put, of slots that may be.
func slotsWith(l []api.Slot, key, value api.Word) ([]api.Slot, api.Errno) {
	l = slices.DeleteFunc(slices.Clone(l), func(s api.Slot) bool { return s.Key == key })
	if value != (api.Word{}) {
		l = append(l, api.Slot{Key: key, Value: value})
	}
	if len(l) > 1000 {
		return nil, api.ErrLong
	}
	slices.SortFunc(l, func(a, b api.Slot) int { return number(a.Key).Cmp(number(b.Key)) })
	return l, api.OK
}

// kept is what slots keep for a key.
func kept(l []api.Slot, key api.Word) api.Word {
	i := slices.IndexFunc(l, func(s api.Slot) bool { return s.Key == key })
	if i < 0 {
		return api.Word{}
	}
	return l[i].Value
}

// done is what Do promises.
func done(s []api.Account, c api.Change) ([]api.Account, api.Change, api.Errno) {
	if !right(s) || c.Kind < 1 || c.Kind > 4 {
		return s, api.Change{}, api.ErrArg
	}
	was := found(s, c.At)
	x := was
	undo := api.Change{Kind: c.Kind, At: c.At}
	switch c.Kind {
	case 1:
		x.Balance, undo.Value = c.Value, was.Balance
	case 2:
		x.Nonce, undo.Nonce = c.Nonce, was.Nonce
	case 3:
		x.Code, undo.Code = c.Code, was.Code
	case 4:
		l, e := slotsWith(was.Slots, c.Key, c.Value)
		if e != api.OK {
			return s, api.Change{}, e
		}
		x.Slots, undo.Key, undo.Value = l, c.Key, kept(was.Slots, c.Key)
	}
	out, e := set(s, x)
	if e != api.OK {
		return s, api.Change{}, e
	}
	return out, undo, api.OK
}

// headed are bytes behind a head of chapter 6.
func headed(kind int, s string) string {
	if len(s) <= 55 {
		return string([]byte{byte(kind + len(s))}) + s
	}
	digits := big.NewInt(int64(len(s))).Bytes()
	return string([]byte{byte(kind + 55 + len(digits))}) + string(digits) + s
}

// textBytes are a text's bytes.
func textBytes(s string) string {
	if len(s) == 1 && s[0] < 128 {
		return s
	}
	return headed(128, s)
}

// numberBytes are a number's bytes.
func numberBytes(n *big.Int) string { return textBytes(string(n.Bytes())) }

// stateBytes are those of a state's item.
func stateBytes(s []api.Account) string {
	all := ""
	for _, x := range s {
		slots := ""
		for _, slot := range x.Slots {
			slots += headed(192, numberBytes(number(slot.Key))+numberBytes(number(slot.Value)))
		}
		all += headed(192, textBytes(string(x.At[:]))+numberBytes(big.NewInt(int64(x.Nonce)))+numberBytes(number(x.Balance))+textBytes(x.Code)+headed(192, slots))
	}
	return headed(192, all)
}

// digest is what Digest promises.
func digest(s []api.Account) (string, api.Errno) {
	if !right(s) {
		return "", api.ErrArg
	}
	many := 1
	for _, x := range s {
		many += 6 + 3*len(x.Slots)
	}
	bytes := stateBytes(s)
	switch {
	case many > 5000:
		return "", api.ErrArg
	case len(bytes) > 1<<20:
		return "", api.ErrLong
	}
	return keccak.Sum(bytes)
}

// chance is numbers that are the same ones each time.
type chance uint64

func (c *chance) below(n int) int {
	*c = *c*6364136223846793005 + 1442695040888963407
	return int(uint64(*c>>33) % uint64(n))
}

// word is 0, or another one of some few, which part of it is not 0 is unlike from one to the other.
func (c *chance) word() api.Word {
	var w api.Word
	w[c.below(4)] = uint64(c.below(3))
	return w
}

// at is one of at most so many addresses; which of their bytes tell them apart is unlike from one to the other.
func (c *chance) at(many int) api.Addr {
	i := c.below(many)
	var at api.Addr
	at[i%20] = byte(i)
	at[i%7] |= 128
	return at
}

// change is one of those that may be, most of the time.
func (c *chance) change(many int) api.Change {
	x := api.Change{Kind: 1 + c.below(4), At: c.at(many), Key: c.word(), Value: c.word(), Nonce: c.below(3), Code: strings.Repeat("c", c.below(3))}
	switch c.below(30) {
	case 0:
		x.Kind = 7 * (c.below(3) - 1)
	case 1:
		x.Nonce = -1
	case 2:
		x.Nonce = 9007199254740993
	case 3:
		x.Code = strings.Repeat("c", 24577)
	}
	return x
}

// account is one of those that may be, now and then an empty one.
func (c *chance) account(many int) api.Account {
	x := api.Account{At: c.at(many), Balance: c.word(), Nonce: c.below(3), Code: strings.Repeat("a", c.below(3))}
	for range c.below(4) {
		x.Slots, _ = slotsWith(x.Slots, c.word(), c.word())
	}
	return x
}

// state is at most so many accounts that may be a state.
func (c *chance) state(many int) []api.Account {
	var s []api.Account
	for range many {
		s, _ = set(s, c.account(many))
	}
	return s
}

// expectSet holds Set, and what Right tells of its answer, against the chapter.
func expectSet(t *testing.T, s []api.Account, x api.Account) {
	t.Helper()
	out, e := state.Set(s, x)
	want, f := set(s, x)
	if tellAll(out) != tellAll(want) || e != f {
		t.Fatalf("%s\nset %s:\n%s\n%d, not\n%s\n%d", short(s), tell(x), short(out), e, short(want), f)
	}
	if !state.Right(out) {
		t.Fatalf("%s: not right", short(out))
	}
}

// expectDo holds Do against the chapter; it tells the state.
func expectDo(t *testing.T, s []api.Account, c api.Change) []api.Account {
	t.Helper()
	out, undo, e := state.Do(s, c)
	want, back, f := done(s, c)
	if tellAll(out) != tellAll(want) || undo != back || e != f {
		t.Fatalf("%s\ndo %v:\n%s\n%v %d, not\n%s\n%v %d", short(s), c, short(out), undo, e, short(want), back, f)
	}
	return out
}

// short is as much of accounts as can be read.
func short(s []api.Account) string {
	told := tellAll(s)
	return told[:min(len(told), 2000)]
}

// H1 to H5

func TestAllShortStatesAreAsTold(t *testing.T) {
	var of []api.Account
	for _, at := range []api.Addr{{}, {19: 1}, {18: 1}, {1}} {
		of = append(of, api.Account{At: at}, api.Account{At: at, Nonce: 1}, api.Account{At: at, Nonce: -1})
	}
	states := [][]api.Account{nil}
	for from := 0; len(states) < 1+12+144; {
		to := len(states)
		for _, s := range states[from:to] {
			for _, x := range of {
				states = append(states, append(slices.Clone(s), x))
			}
		}
		from = to
	}
	are := 0
	for _, s := range states {
		if state.Right(s) != right(s) {
			t.Fatal(short(s), state.Right(s))
		}
		if state.Right(s) {
			are++
		}
		for _, x := range of {
			expectSet(t, s, x)
			expectDo(t, s, api.Change{Kind: api.SetNonce, At: x.At, Nonce: x.Nonce})
			if y := state.Find(s, x.At); tell(y) != tell(found(s, x.At)) {
				t.Fatal(short(s), tell(y))
			}
		}
		for _, r := range states {
			if state.Same(s, r) != (tellAll(s) == tellAll(r) && len(s) == len(r)) {
				t.Fatal(short(s), short(r))
			}
		}
	}
	// 4 addresses: none of them, 1 or 2.
	if are != 1+4+6 {
		t.Error(are)
	}
}

func TestMixedStatesAreAsTold(t *testing.T) {
	c := chance(8)
	for many := 1; many < 60; many++ {
		s := c.state(many)
		if !state.Right(s) {
			t.Fatal(short(s))
		}
		for range 10 {
			expectSet(t, s, c.account(many+1))
			expectDo(t, s, c.change(many+1))
			at := c.at(many + 1)
			if x := state.Find(s, at); tell(x) != tell(found(s, at)) {
				t.Fatal(short(s), tell(x))
			}
		}
		d, e := state.Digest(s)
		if want, f := digest(s); d != want || len(d) != 32 || e != f {
			t.Fatalf("%s: %x %d, not %x %d", short(s), d, e, want, f)
		}
	}
}

// H6

func TestWhatSetSetFindFinds(t *testing.T) {
	c := chance(4)
	for many := 1; many < 60; many++ {
		s := c.state(many)
		for range 20 {
			x := c.account(many + 1)
			out, e := state.Set(s, x)
			if y := state.Find(out, x.At); tell(y) != tell(x) || !state.Right(out) || e != api.OK {
				t.Fatalf("%s\nset %s: %s %d", short(s), tell(x), short(out), e)
			}
			for _, y := range append(slices.Clone(s), out...) {
				if y.At != x.At && tell(state.Find(s, y.At)) != tell(state.Find(out, y.At)) {
					t.Fatalf("%s\nset %s: %x too", short(s), tell(x), y.At)
				}
			}
		}
	}
}

func TestWhatDoTellsUndoesIt(t *testing.T) {
	c := chance(6)
	for many := 1; many < 40; many++ {
		s := c.state(many)
		var states [][]api.Account
		var undo []api.Change
		for range 50 {
			out, back, e := state.Do(s, c.change(many+1))
			if e != api.OK {
				continue
			}
			states, undo = append(states, s), append(undo, back)
			s = out
		}
		for i, back := range slices.Backward(undo) {
			out, _, e := state.Do(s, back)
			if e != api.OK || !state.Same(out, states[i]) || tellAll(out) != tellAll(states[i]) {
				t.Fatalf("%s\nundone by %v: %s %d", short(s), back, short(out), e)
			}
			s = out
		}
	}
}

func TestDigestsOfStates(t *testing.T) {
	c := chance(2)
	told := map[string]string{}
	for range 500 {
		s := c.state(3)
		// The same state, with other memory, and with lists of another kind without elements.
		same := slices.Clone(s)
		for i, x := range same {
			same[i].Slots = append([]api.Slot{}, x.Slots...)
		}
		a, e := state.Digest(s)
		b, f := state.Digest(same)
		if !state.Same(s, same) || a != b || e != api.OK || f != api.OK {
			t.Fatalf("%s: %x %d, %x %d", short(s), a, e, b, f)
		}
		if was, is := told[a]; is && was != tellAll(s) {
			t.Fatalf("%s\n%s: %x", was, short(s), a)
		}
		told[a] = tellAll(s)
	}
	if len(told) < 300 {
		t.Error(len(told))
	}
}
