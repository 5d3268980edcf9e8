package view_test

import (
	"fmt"
	"slices"
	"strconv"
	"strings"
	"testing"

	"railhead/access"
	"railhead/api"
	"railhead/state"
	"railhead/table"
	"railhead/view"
	"railhead/word"
)

// What follows says what the chapter says, one sentence behind the other, by the calls of the chapters that it names, of the whole state, cell by cell.

// tellWord does not go by fmt: there are many slots.
func tellWord(out []byte, w api.Word) []byte {
	for _, part := range w {
		out = strconv.AppendUint(append(out, ' '), part, 16)
	}
	return out
}

// tellState is all that there is of accounts, as a text.
func tellState(s []api.Account) string {
	var out []byte
	for _, x := range s {
		out = fmt.Appendf(out, "%x %d %q", x.At, x.Nonce, x.Code)
		out = tellWord(out, x.Balance)
		for _, slot := range x.Slots {
			out = tellWord(tellWord(append(out, ','), slot.Key), slot.Value)
		}
		out = append(out, '\n')
	}
	return string(out)
}

func tellKey(k api.Key) string { return fmt.Sprintf("%x %v %x", k.At, k.Slot, k.Key) }

func tellCell(c api.Cell) string {
	return fmt.Sprintf("%s: %x %d %q %x", tellKey(c.Key), c.Balance, c.Nonce, c.Code, c.Value)
}

// tell is all that there is of a view, as a text.
func tell(v api.View) string {
	lines := []string{tellState(v.Base)}
	for _, k := range v.Sets.Reads {
		lines = append(lines, "reads "+tellKey(k))
	}
	for _, k := range v.Sets.Writes {
		lines = append(lines, "writes "+tellKey(k))
	}
	for _, c := range v.Cells {
		lines = append(lines, "cell "+tellCell(c))
	}
	return strings.Join(lines, "\n")
}

// short is as much of a text as can be read.
func short(told string) string { return told[:min(len(told), 3000)] }

// cellMayBe is what the chapter's words tell of a cell.
func cellMayBe(c api.Cell) bool {
	none := api.Word{}
	if c.Key.Slot {
		return c.Balance == none && c.Nonce == 0 && len(c.Code) == 0
	}
	return c.Key.Key == none && 0 <= c.Nonce && c.Nonce <= 9007199254740992 && len(c.Code) <= 24576 && c.Value == none
}

// right is what Right promises: of each cell all those ahead are less, not only the one ahead.
func right(v api.View) bool {
	if !state.Right(v.Base) || !access.Right(v.Sets) {
		return false
	}
	for i, c := range v.Cells {
		for _, other := range v.Cells[:i] {
			if access.Order(other.Key, c.Key) != -1 {
				return false
			}
		}
		if !cellMayBe(c) || !access.May(v.Sets, c.Key, true) {
			return false
		}
	}
	return true
}

// cellOf is the cell of a key, if there is one.
func cellOf(v api.View, k api.Key) (api.Cell, bool) {
	for _, c := range v.Cells {
		if c.Key == k {
			return c, true
		}
	}
	return api.Cell{}, false
}

// account is what Account promises.
func account(v api.View, at api.Addr) (api.Account, api.Errno) {
	k := api.Key{At: at}
	if !right(v) {
		return api.Account{}, api.ErrArg
	}
	if !access.May(v.Sets, k, false) {
		return api.Account{}, api.ErrAccess
	}
	x := state.Find(v.Base, at)
	if c, is := cellOf(v, k); is {
		x = api.Account{Balance: c.Balance, Nonce: c.Nonce, Code: c.Code}
	}
	x.At, x.Slots = at, nil
	return x, api.OK
}

// slot is what Slot promises.
func slot(v api.View, at api.Addr, key api.Word) (api.Word, api.Errno) {
	k := api.Key{At: at, Slot: true, Key: key}
	if !right(v) {
		return api.Word{}, api.ErrArg
	}
	if !access.May(v.Sets, k, false) {
		return api.Word{}, api.ErrAccess
	}
	if c, is := cellOf(v, k); is {
		return c.Value, api.OK
	}
	return table.Get(state.Find(v.Base, at).Slots, key), api.OK
}

// withCell is a view with a cell, and no other one of its key.
func withCell(v api.View, c api.Cell) api.View {
	v.Cells = slices.DeleteFunc(slices.Clone(v.Cells), func(other api.Cell) bool { return other.Key == c.Key })
	v.Cells = append(v.Cells, c)
	slices.SortFunc(v.Cells, func(a, b api.Cell) int { return access.Order(a.Key, b.Key) })
	return v
}

// accountSet is what SetAccount promises.
func accountSet(v api.View, x api.Account) (api.View, api.Errno) {
	c := api.Cell{Key: api.Key{At: x.At}, Balance: x.Balance, Nonce: x.Nonce, Code: x.Code}
	if !right(v) || !cellMayBe(c) {
		return v, api.ErrArg
	}
	if !access.May(v.Sets, c.Key, true) {
		return v, api.ErrAccess
	}
	return withCell(v, c), api.OK
}

// slotSet is what SetSlot promises.
func slotSet(v api.View, at api.Addr, key, value api.Word) (api.View, api.Errno) {
	c := api.Cell{Key: api.Key{At: at, Slot: true, Key: key}, Value: value}
	if !right(v) {
		return v, api.ErrArg
	}
	if !access.May(v.Sets, c.Key, true) {
		return v, api.ErrAccess
	}
	return withCell(v, c), api.OK
}

// merged is what Merge promises.
func merged(s []api.Account, v api.View) ([]api.Account, api.Errno) {
	if !state.Right(s) || !right(v) {
		return nil, api.ErrArg
	}
	for _, c := range v.Cells {
		x := state.Find(s, c.Key.At)
		if c.Key.Slot {
			slots, e := table.Put(x.Slots, c.Key.Key, c.Value)
			if e != api.OK {
				return nil, e
			}
			x.Slots = slots
		} else {
			x.Balance, x.Nonce, x.Code = c.Balance, c.Nonce, c.Code
		}
		out, e := state.Set(s, x)
		if e != api.OK {
			return nil, e
		}
		s = out
	}
	return s, api.OK
}

// expectRight holds Right against the chapter.
func expectRight(t *testing.T, v api.View) {
	t.Helper()
	if want := right(v); view.Right(v) != want {
		t.Fatalf("%s\nright: not %v", short(tell(v)), want)
	}
}

// expectRead holds what is told of a key against the chapter.
func expectRead(t *testing.T, v api.View, k api.Key) {
	t.Helper()
	x, e := view.Account(v, k.At)
	y, f := account(v, k.At)
	if tellState([]api.Account{x}) != tellState([]api.Account{y}) || e != f {
		t.Fatalf("%s\naccount %x: %v %d, not %v %d", short(tell(v)), k.At, x, e, y, f)
	}
	a, e := view.Slot(v, k.At, k.Key)
	b, f := slot(v, k.At, k.Key)
	if a != b || e != f {
		t.Fatalf("%s\nslot %x %x: %x %d, not %x %d", short(tell(v)), k.At, k.Key, a, e, b, f)
	}
}

// expectSame holds a view that was answered against the chapter's.
func expectSame(t *testing.T, what string, from, v api.View, e api.Errno, want api.View, f api.Errno) {
	t.Helper()
	if tell(v) != tell(want) || e != f {
		t.Fatalf("%s\n%.1000s:\n%s %d, not\n%s %d", short(tell(from)), what, short(tell(v)), e, short(tell(want)), f)
	}
	if e == api.OK && !view.Right(v) {
		t.Fatalf("%s\n%.1000s:\n%s: not right", short(tell(from)), what, short(tell(v)))
	}
}

// expectSetAccount holds SetAccount against the chapter; it tells the view.
func expectSetAccount(t *testing.T, v api.View, x api.Account) api.View {
	t.Helper()
	out, e := view.SetAccount(v, x)
	want, f := accountSet(v, x)
	expectSame(t, "set "+tellState([]api.Account{x}), v, out, e, want, f)
	return out
}

// expectSetSlot holds SetSlot against the chapter; it tells the view.
func expectSetSlot(t *testing.T, v api.View, k api.Key, value api.Word) api.View {
	t.Helper()
	out, e := view.SetSlot(v, k.At, k.Key, value)
	want, f := slotSet(v, k.At, k.Key, value)
	expectSame(t, fmt.Sprintf("set %s: %x", tellKey(k), value), v, out, e, want, f)
	return out
}

// expectMerge holds Merge against the chapter; it tells the error.
func expectMerge(t *testing.T, s []api.Account, v api.View) api.Errno {
	t.Helper()
	out, e := view.Merge(s, v)
	want, f := merged(s, v)
	if tellState(out) != tellState(want) || e != f {
		t.Fatalf("%s\nmerge\n%s\n%s %d, not\n%s %d", short(tellState(s)), short(tell(v)), short(tellState(out)), e, short(tellState(want)), f)
	}
	if !state.Right(out) {
		t.Fatalf("%s: not right", short(tellState(out)))
	}
	return e
}

// chance is numbers that are the same ones each time.
type chance uint64

func (c *chance) below(n int) int {
	*c = *c*6364136223846793005 + 1442695040888963407
	return int(uint64(*c>>33) % uint64(n))
}

// word is 0, or another one of some few, which part of it is not 0 is unlike from one to the other.
func (c *chance) word() api.Word {
	var w api.Word
	w[c.below(4)] = uint64(c.below(3))
	return w
}

// at is one of at most so many addresses; which of their bytes tell them apart is unlike from one to the other.
func (c *chance) at(many int) api.Addr {
	i := c.below(many)
	var at api.Addr
	at[i%20] = byte(i)
	at[i%7] |= 128
	return at
}

// key is one that may be.
func (c *chance) key(many int) api.Key {
	k := api.Key{At: c.at(many), Slot: c.below(3) > 0}
	if k.Slot {
		k.Key = c.word()
	}
	return k
}

// keys are at most so many.
func (c *chance) keys(many, of int) []api.Key {
	var out []api.Key
	for range c.below(many + 1) {
		out = append(out, c.key(of))
	}
	return out
}

// some are so many of each list.
func (c *chance) some(many int, lists ...[]api.Key) []api.Key {
	var out []api.Key
	for _, l := range lists {
		for range min(many, len(l)) {
			out = append(out, l[c.below(len(l))])
		}
	}
	return out
}

// account is one of those that may be, now and then an empty one.
func (c *chance) account(many int) api.Account {
	x := api.Account{At: c.at(many), Balance: c.word(), Nonce: c.below(3), Code: strings.Repeat("a", c.below(3))}
	if c.below(3) == 0 {
		x = api.Account{At: x.At}
	}
	for range c.below(6) {
		x.Slots, _ = table.Put(x.Slots, c.word(), c.word())
	}
	return x
}

// state is at most so many accounts that may be a state.
func (c *chance) state(many int) []api.Account {
	var s []api.Account
	for range many {
		s, _ = state.Set(s, c.account(many))
	}
	return s
}

// sets are right ones.
func (c *chance) sets(many, of int) api.Sets {
	s, _ := access.Make(c.keys(many, of), c.keys(many, of))
	return s
}

// cell is one of that key, that may be.
func (c *chance) cell(k api.Key) api.Cell {
	if k.Slot {
		return api.Cell{Key: k, Value: c.word()}
	}
	x := c.account(1)
	return api.Cell{Key: k, Balance: x.Balance, Nonce: x.Nonce, Code: x.Code}
}

// view is a right one of so many addresses, with cells of some of what may be written to.
func (c *chance) view(many int) api.View {
	v := api.View{Base: c.state(many), Sets: c.sets(3*many, many)}
	for _, k := range v.Sets.Writes {
		if c.below(2) == 0 {
			v.Cells = append(v.Cells, c.cell(k))
		}
	}
	return v
}

// broken is a view in which one thing is otherwise; it may be right all the same.
func (c *chance) broken(v api.View, many int) api.View {
	v.Cells = slices.Clone(v.Cells)
	if len(v.Cells) == 0 {
		v.Cells = append(v.Cells, c.cell(c.key(many)))
	}
	one, other := c.below(len(v.Cells)), c.below(len(v.Cells))
	switch c.below(7) {
	case 0:
		v.Cells[one].Key = c.key(many)
	case 1:
		v.Cells[one], v.Cells[other] = v.Cells[other], v.Cells[one]
	case 2:
		v.Cells = slices.Insert(v.Cells, one, v.Cells[other])
	case 3:
		v.Cells[one].Value = c.word()
	case 4:
		v.Cells[one].Balance = c.word()
	case 5:
		v.Cells[one].Nonce = 3*c.below(2) - 1
	case 6:
		v.Cells[one].Code = strings.Repeat("c", 24577*c.below(2))
	}
	return v
}

// K1

func TestAllListsOfFewCellsAreAsTold(t *testing.T) {
	one := []api.Key{{At: api.Addr{1}}, {At: api.Addr{1}, Slot: true}, {At: api.Addr{1}, Slot: true, Key: word.Of(5)}, {At: api.Addr{2}}}
	sets := []api.Sets{{}, {Writes: one}, {Writes: one[:1]}, {Writes: one[1:3]}, {Writes: one[2:]}, {Reads: one}, {Reads: one, Writes: one[1:2]}, {Writes: []api.Key{one[1], one[0]}}, {Writes: []api.Key{{Key: word.Of(5)}}}}
	cells := []api.Cell{{}, {Key: api.Key{Key: word.Of(5)}}, {Key: one[0], Value: word.Of(1)}, {Key: one[1], Nonce: 1}}
	for _, k := range one {
		cells = append(cells, api.Cell{Key: k})
	}
	lists := [][]api.Cell{nil}
	for from := 0; len(lists) < 1+8+64+512; {
		to := len(lists)
		for _, l := range lists[from:to] {
			for _, c := range cells {
				lists = append(lists, append(slices.Clone(l), c))
			}
		}
		from = to
	}
	are := 0
	for _, s := range sets {
		for _, l := range lists {
			v := api.View{Sets: s, Cells: l}
			expectRight(t, v)
			if view.Right(v) {
				are++
			}
		}
	}
	// Of how many keys there may be cells: up to three of 4, of 1, of 2, of 2, none, one; none of none; the last two are not right.
	if want := 1 + (1 + 4 + 6 + 4) + 2 + 4 + 4 + 1 + 2; are != want {
		t.Error(are, want)
	}
}

// K1 to K4

func TestMixedViewsAreAsTold(t *testing.T) {
	c := chance(3)
	wrong := 0
	for many := 1; many < 30; many++ {
		for i := range 12 {
			v := c.view(many)
			if i%3 == 0 {
				v = c.broken(v, many)
			}
			expectRight(t, v)
			if !view.Right(v) {
				wrong++
			}
			expectMerge(t, v.Base, v)
			expectMerge(t, c.state(many), v)
			for _, k := range append(c.some(5, v.Sets.Reads, v.Sets.Writes), c.keys(5, many+1)...) {
				expectRead(t, v, k)
				expectSetSlot(t, v, k, c.word())
				x := c.account(many + 1)
				expectSetAccount(t, v, x)
				x.At = k.At
				expectSetAccount(t, v, x)
			}
		}
	}
	if wrong < 50 || wrong > 110 {
		t.Error(wrong)
	}
}

func TestMuchThatIsWrittenIsAsTold(t *testing.T) {
	c := chance(5)
	for many := 2; many < 30; many++ {
		v, e := view.Open(c.state(many), c.sets(4*many, many))
		if e != api.OK {
			t.Fatal(e)
		}
		for range 40 {
			k := c.key(many)
			if n := len(v.Sets.Writes); n > 0 && c.below(4) > 0 {
				k = v.Sets.Writes[c.below(n)]
			}
			if k.Slot {
				v = expectSetSlot(t, v, k, c.word())
			} else {
				x := c.account(many)
				x.At = k.At
				v = expectSetAccount(t, v, x)
			}
			expectRead(t, v, k)
			expectRead(t, v, c.key(many))
		}
		if e := expectMerge(t, v.Base, v); e != api.OK {
			t.Fatal(e)
		}
	}
}

// In states that are nearly full it makes a difference which cell comes first.
func TestMergeOfNearlyFullStatesIsAsTold(t *testing.T) {
	c := chance(9)
	ends := map[api.Errno]int{}
	for i := range 60 {
		s := c.state(900)
		for n := 0; len(s) < 197+i%4; n++ {
			s, _ = state.Set(s, api.Account{At: api.Addr{200, byte(n)}, Nonce: 1})
		}
		for len(s) > 197+i%4 {
			s, _ = state.Set(s, api.Account{At: s[c.below(len(s))].At})
		}
		v := api.View{Sets: c.sets(20, 900)}
		for _, k := range v.Sets.Writes {
			v.Cells = append(v.Cells, c.cell(k))
		}
		for range 5 {
			// One that is there goes.
			x := s[c.below(len(s))]
			sets, e := access.Join(v.Sets, api.Sets{Writes: append([]api.Key{{At: x.At}}, slotKeys(x)...)})
			if e != api.OK {
				t.Fatal(e)
			}
			v.Sets = sets
			v = withCell(v, api.Cell{Key: api.Key{At: x.At}})
			for _, k := range slotKeys(x) {
				v = withCell(v, api.Cell{Key: k})
			}
		}
		ends[expectMerge(t, s, v)]++
	}
	if ends[api.OK] < 10 || ends[api.ErrLong] < 10 {
		t.Error(ends)
	}
}

// slotKeys are the keys of an account's slots.
func slotKeys(x api.Account) []api.Key {
	var out []api.Key
	for _, s := range x.Slots {
		out = append(out, api.Key{At: x.At, Slot: true, Key: s.Key})
	}
	return out
}

// K5

func TestWhatWasWrittenIsRead(t *testing.T) {
	c := chance(11)
	for many := 2; many < 40; many++ {
		v := c.view(many)
		for _, k := range v.Sets.Writes {
			was := answers(v)
			x, value := c.account(many), c.word()
			x.At = k.At
			out, e := view.SetAccount(v, x)
			if k.Slot {
				out, e = view.SetSlot(v, k.At, k.Key, value)
			}
			now := answers(out)
			if e != api.OK || len(now) != len(was) {
				t.Fatal(e, len(now))
			}
			for other, told := range now {
				want := was[other]
				if other == k && k.Slot {
					want = fmt.Sprintf("%x", value)
				} else if other == k {
					x.Slots = nil
					want = tellState([]api.Account{x})
				}
				if told != want {
					t.Fatalf("%s\n%s\nthen %s: %s, not %s", short(tell(v)), tellKey(k), tellKey(other), told, want)
				}
			}
		}
	}
}

// answers is what is told of all that was declared.
func answers(v api.View) map[api.Key]string {
	out := map[api.Key]string{}
	for _, k := range slices.Concat(v.Sets.Reads, v.Sets.Writes) {
		if k.Slot {
			value, e := view.Slot(v, k.At, k.Key)
			out[k] = fmt.Sprintf("%x", value)
			if e != api.OK {
				out[k] = fmt.Sprint("error ", e)
			}
			continue
		}
		x, e := view.Account(v, k.At)
		out[k] = tellState([]api.Account{x})
		if e != api.OK {
			out[k] = fmt.Sprint("error ", e)
		}
	}
	return out
}

// elsewhere is a state that may be unlike where nothing is declared, and is the same where something is.
func (c *chance) elsewhere(s []api.Account, sets api.Sets, many int) []api.Account {
	for range 10 {
		k := c.key(many)
		x := c.account(many)
		change := api.Change{Kind: 1 + c.below(3), At: k.At, Value: x.Balance, Nonce: x.Nonce, Code: x.Code}
		if k.Slot {
			change = api.Change{Kind: api.SetSlot, At: k.At, Key: k.Key, Value: c.word()}
		}
		if !access.May(sets, k, false) {
			s, _, _ = state.Do(s, change)
		}
	}
	return s
}

func TestWhatIsToldHangsOnWhatIsDeclaredAlone(t *testing.T) {
	c := chance(13)
	unlike := 0
	for i := range 300 {
		many := 2 + i%12
		v := c.view(many)
		other := v
		other.Base = c.elsewhere(v.Base, v.Sets, many)
		if !state.Same(v.Base, other.Base) {
			unlike++
		}
		for range 10 {
			k, x, value := c.key(many), c.account(many), c.word()
			a, e := view.Account(v, k.At)
			b, f := view.Account(other, k.At)
			if tellState([]api.Account{a}) != tellState([]api.Account{b}) || e != f {
				t.Fatalf("%s\nand\n%s\n%x: %v %d, %v %d", short(tell(v)), short(tell(other)), k.At, a, e, b, f)
			}
			y, e := view.Slot(v, k.At, k.Key)
			z, f := view.Slot(other, k.At, k.Key)
			if y != z || e != f {
				t.Fatalf("%s\nand\n%s\n%s: %x %d, %x %d", short(tell(v)), short(tell(other)), tellKey(k), y, e, z, f)
			}
			v, e = view.SetAccount(v, x)
			other, f = view.SetAccount(other, x)
			v, _ = view.SetSlot(v, k.At, k.Key, value)
			other, _ = view.SetSlot(other, k.At, k.Key, value)
			if !slices.Equal(v.Cells, other.Cells) || e != f {
				t.Fatalf("%s\nand\n%s\n%d %d", short(tell(v)), short(tell(other)), e, f)
			}
		}
	}
	if unlike < 200 {
		t.Error(unlike)
	}
}

func TestMergeChangesNothingThatWasNotDeclared(t *testing.T) {
	c := chance(17)
	for i := range 300 {
		many := 2 + i%20
		v, s := c.view(many), c.state(many)
		out, e := view.Merge(s, v)
		if e != api.OK {
			t.Fatal(e)
		}
		for _, at := range places(s, out) {
			x, y := state.Find(s, at), state.Find(out, at)
			if (x.Balance != y.Balance || x.Nonce != y.Nonce || x.Code != y.Code) && !access.May(v.Sets, api.Key{At: at}, true) {
				t.Fatalf("%s\nmerge\n%s\n%x", short(tellState(s)), short(tell(v)), at)
			}
			for _, k := range append(slotKeys(x), slotKeys(y)...) {
				if table.Get(x.Slots, k.Key) != table.Get(y.Slots, k.Key) && !access.May(v.Sets, k, true) {
					t.Fatalf("%s\nmerge\n%s\n%s", short(tellState(s)), short(tell(v)), tellKey(k))
				}
			}
		}
		// What was written stands there.
		for _, c := range v.Cells {
			if x := state.Find(out, c.Key.At); c.Key.Slot && table.Get(x.Slots, c.Key.Key) != c.Value || !c.Key.Slot && (x.Balance != c.Balance || x.Nonce != c.Nonce || x.Code != c.Code) {
				t.Fatalf("%s\nmerge\n%s\n%s", short(tellState(s)), short(tell(v)), tellKey(c.Key))
			}
		}
	}
}

// places are all addresses of some states.
func places(l ...[]api.Account) []api.Addr {
	var out []api.Addr
	for _, x := range slices.Concat(l...) {
		out = append(out, x.At)
	}
	return out
}

// aside is a view that does not clash with another one: what is in the way is not declared, nor written.
func aside(v, other api.View) api.View {
	inTheWay := func(k api.Key) bool { return access.May(other.Sets, k, true) }
	touched := func(k api.Key) bool { return access.May(other.Sets, k, false) }
	v.Sets.Reads = slices.DeleteFunc(slices.Clone(v.Sets.Reads), inTheWay)
	v.Sets.Writes = slices.DeleteFunc(slices.Clone(v.Sets.Writes), touched)
	v.Cells = slices.DeleteFunc(slices.Clone(v.Cells), func(c api.Cell) bool { return touched(c.Key) })
	return v
}

func TestViewsThatDoNotClash(t *testing.T) {
	c := chance(19)
	changed := 0
	for i := range 400 {
		many := 2 + i%10
		s := c.state(many)
		a, b := c.view(many), c.view(many)
		a.Base, b.Base = s, s
		b = aside(b, a)
		if access.Clash(a.Sets, b.Sets) || !view.Right(a) || !view.Right(b) {
			t.Fatalf("%s\nand\n%s", short(tell(a)), short(tell(b)))
		}
		withA, e := view.Merge(s, a)
		withB, f := view.Merge(s, b)
		one, g := view.Merge(withA, b)
		other, h := view.Merge(withB, a)
		if e != api.OK || f != api.OK || g != api.OK || h != api.OK || !state.Same(one, other) {
			t.Fatalf("%s\nand\n%s\n%s\n%s", short(tell(a)), short(tell(b)), short(tellState(one)), short(tellState(other)))
		}
		if !state.Same(s, withA) && !state.Same(s, withB) && !state.Same(withA, one) {
			changed++
		}
		was := answers(a)
		a.Base = withB
		for k, told := range answers(a) {
			if told != was[k] {
				t.Fatalf("%s\nand\n%s\n%s: %s, not %s", short(tell(a)), short(tell(b)), tellKey(k), told, was[k])
			}
		}
	}
	if changed < 200 {
		t.Error(changed)
	}
}
