package view_test

import (
	"math"
	"slices"
	"strings"
	"testing"

	"railhead/api"
	"railhead/state"
	"railhead/view"
	"railhead/word"
)

const most = 1<<64 - 1

func accountKey(at byte) api.Key { return api.Key{At: api.Addr{at}} }

func slotKey(at byte, n int) api.Key {
	return api.Key{At: api.Addr{at}, Slot: true, Key: word.Of(n)}
}

// slotsOf is a list of these keys with these values.
func slotsOf(l ...int) []api.Slot {
	var out []api.Slot
	for i := 0; i < len(l); i += 2 {
		out = append(out, api.Slot{Key: word.Of(l[i]), Value: word.Of(l[i+1])})
	}
	return out
}

// slotRow are so many slots, of the keys 0, 2, 4 and so on.
func slotRow(many int) []api.Slot {
	var out []api.Slot
	for i := range many {
		out = append(out, api.Slot{Key: word.Of(2 * i), Value: word.Of(1)})
	}
	return out
}

// place is one of addresses in order.
func place(i int) api.Addr { return api.Addr{100, byte(i >> 8), 19: byte(i)} }

// row are so many accounts; between any two, ahead of all and behind all, there is place for one more.
func row(many int) []api.Account {
	var out []api.Account
	for i := range many {
		out = append(out, api.Account{At: place(2*i + 1), Nonce: 1})
	}
	return out
}

// few are accounts of each kind.
func few() []api.Account {
	return []api.Account{
		{At: api.Addr{1}, Balance: word.Of(5)},
		{At: api.Addr{2}, Balance: word.Of(6), Nonce: 1, Code: "ab", Slots: slotsOf(1, 2, 3, 4)},
		{At: api.Addr{3}, Slots: slotsOf(7, 7)},
	}
}

// declared are sets of few accounts' keys, of some of which there is nothing.
func declared() api.Sets {
	return api.Sets{
		Reads:  []api.Key{accountKey(1), slotKey(2, 1), accountKey(3), slotKey(4, 0)},
		Writes: []api.Key{slotKey(1, 9), accountKey(2), slotKey(2, 1), slotKey(2, 3), slotKey(3, 7), accountKey(4)},
	}
}

// open is a view of few, in which some was written.
func open() api.View {
	cells := []api.Cell{{Key: slotKey(1, 9), Value: word.Of(1)}, {Key: accountKey(2), Balance: word.Of(8), Nonce: 2, Code: "c"}, {Key: slotKey(2, 3)}, {Key: accountKey(4)}}
	return api.View{Base: few(), Sets: declared(), Cells: cells}
}

// wrongStates are accounts that may not be a state.
func wrongStates() [][]api.Account {
	return [][]api.Account{
		row(201),
		{{}},
		{few()[0], {At: api.Addr{2}}, few()[2]},
		{few()[1], few()[0]},
		{few()[0], few()[0]},
		{{At: api.Addr{9}, Nonce: -1}},
		{{At: api.Addr{9}, Nonce: 1<<53 + 1}},
		{{At: api.Addr{9}, Code: strings.Repeat("a", 24577)}},
		{{At: api.Addr{9}, Slots: slotsOf(1, 0)}},
		{{At: api.Addr{9}, Slots: slotsOf(2, 1, 1, 1)}},
		{{At: api.Addr{9}, Slots: slotRow(1001)}},
	}
}

// keyRow are so many slots.
func keyRow(many int) []api.Key {
	var out []api.Key
	for i := range many {
		out = append(out, slotKey(100, i))
	}
	return out
}

// wrongSets are those that may not be.
func wrongSets() []api.Sets {
	var out []api.Sets
	for _, l := range [][]api.Key{keyRow(201), {accountKey(2), accountKey(1)}, {slotKey(1, 1), slotKey(1, 1)}, {slotKey(1, 0), accountKey(1)}, {{Key: word.Of(1)}}} {
		out = append(out, api.Sets{Reads: l}, api.Sets{Writes: l}, api.Sets{Reads: declared().Reads, Writes: l})
	}
	return out
}

// wrongCells are those that may not be, of the keys that may be written to.
func wrongCells() []api.Cell {
	var out []api.Cell
	for part := range 4 {
		one := api.Word{}
		one[part] = 1 << 63
		out = append(out, api.Cell{Key: accountKey(2), Value: one}, api.Cell{Key: slotKey(2, 1), Balance: one})
	}
	for _, nonce := range []int{math.MinInt, -1, 1<<53 + 1, math.MaxInt} {
		out = append(out, api.Cell{Key: accountKey(2), Nonce: nonce}, api.Cell{Key: slotKey(2, 1), Nonce: nonce})
	}
	out = append(out, api.Cell{Key: accountKey(2), Code: strings.Repeat("a", 24577)}, api.Cell{Key: accountKey(2), Code: strings.Repeat("a", 1<<20)})
	return append(out, api.Cell{Key: slotKey(2, 1), Nonce: 1}, api.Cell{Key: slotKey(2, 1), Code: "\x00"}, api.Cell{Key: slotKey(2, 1), Value: word.Of(3), Code: "a"})
}

// wrongViews are those that may not be, each for another reason.
func wrongViews() []api.View {
	var out []api.View
	for _, s := range wrongStates() {
		out = append(out, api.View{Base: s}, api.View{Base: s, Sets: declared(), Cells: open().Cells})
	}
	for _, s := range wrongSets() {
		out = append(out, api.View{Sets: s}, api.View{Base: few(), Sets: s})
	}
	// What is not right declares nothing.
	out = append(out, api.View{Sets: api.Sets{Writes: []api.Key{{Key: word.Of(1)}}}, Cells: []api.Cell{{Key: api.Key{Key: word.Of(1)}}}})
	for _, c := range wrongCells() {
		v := open()
		v.Cells = []api.Cell{c}
		out = append(out, v)
	}
	for _, k := range []api.Key{accountKey(1), accountKey(3), accountKey(9), slotKey(4, 0), slotKey(2, 2), slotKey(1, 1), {}} {
		out = append(out, api.View{Base: few(), Sets: declared(), Cells: []api.Cell{{Key: k}}})
	}
	for i, c := range open().Cells {
		twice, turned := open(), open()
		twice.Cells = slices.Insert(twice.Cells, i, c)
		turned.Cells[i], turned.Cells[(i+1)%4] = turned.Cells[(i+1)%4], c
		out = append(out, twice, turned)
	}
	return out
}

// written is a view of no state, in which that was written.
func written(cells ...api.Cell) api.View {
	v := api.View{Cells: cells}
	for _, c := range cells {
		v.Sets.Writes = append(v.Sets.Writes, c.Key)
	}
	return v
}

// K1

func TestOpen(t *testing.T) {
	for i, s := range [][]api.Account{nil, {}, few(), few()[:1], row(200)} {
		for k, sets := range []api.Sets{{}, declared(), {Reads: keyRow(200), Writes: keyRow(200)}, {Reads: []api.Key{}, Writes: declared().Writes}} {
			v, e := view.Open(s, sets)
			if tell(v) != tell(api.View{Base: s, Sets: sets}) || e != api.OK || !view.Right(v) {
				t.Error(i, k, short(tell(v)), e)
			}
		}
	}
}

func TestOpenOfWhatIsNotRight(t *testing.T) {
	for i, s := range wrongStates() {
		for _, sets := range append(wrongSets(), api.Sets{}, declared()) {
			if v, e := view.Open(s, sets); tell(v) != tell(api.View{}) || e != api.ErrArg {
				t.Error(i, short(tell(v)), e)
			}
		}
	}
	for i, sets := range wrongSets() {
		if v, e := view.Open(few(), sets); tell(v) != tell(api.View{}) || e != api.ErrArg {
			t.Error(i, short(tell(v)), e)
		}
	}
}

func TestRight(t *testing.T) {
	for i, v := range []api.View{{}, open(), {Cells: []api.Cell{}}, {Sets: declared()}, {Sets: declared(), Cells: open().Cells}, {Base: few(), Sets: declared()}} {
		if !view.Right(v) {
			t.Error(i)
		}
	}
	for i, v := range wrongViews() {
		if view.Right(v) {
			t.Error(i, short(tell(v)))
		}
	}
}

func TestRightOfCellsThatMayJustBe(t *testing.T) {
	for i, c := range []api.Cell{
		{Key: accountKey(1)},
		{Key: accountKey(1), Balance: api.Word{most, most, most, most}, Nonce: 1 << 53, Code: strings.Repeat("\x00", 24576)},
		{Key: accountKey(1), Nonce: 1},
		{Key: accountKey(1), Code: "\xef"},
		{Key: slotKey(1, 1)},
		{Key: api.Key{Slot: true, Key: api.Word{most, most, most, most}}, Value: api.Word{most, most, most, most}},
	} {
		if !view.Right(written(c)) {
			t.Error(i)
		}
	}
}

func TestRightOfManyCells(t *testing.T) {
	v := api.View{Sets: api.Sets{Writes: keyRow(200)}}
	for _, k := range keyRow(200) {
		v.Cells = append(v.Cells, api.Cell{Key: k, Value: word.Of(1)})
	}
	if !view.Right(v) {
		t.Error("200 cells")
	}
	// A wrong one is found wherever it is.
	for i := range v.Cells {
		for n, c := range []api.Cell{{Key: slotKey(100, 200)}, {Key: slotKey(99, 0)}, {Key: v.Cells[(i+1)%200].Key}, {Key: v.Cells[i].Key, Nonce: 1}, {Key: accountKey(100)}} {
			wrong := v
			wrong.Cells = slices.Clone(v.Cells)
			wrong.Cells[i] = c
			if view.Right(wrong) {
				t.Error(i, n)
			}
		}
		less := v
		less.Cells = slices.Delete(slices.Clone(v.Cells), i, i+1)
		if !view.Right(less) {
			t.Error(i)
		}
	}
	// Many that are wrong are no reason to go through all of them.
	long := api.View{Sets: v.Sets, Cells: make([]api.Cell, 1<<20)}
	if view.Right(long) {
		t.Error("long")
	}
}

// K2

func TestAccount(t *testing.T) {
	for i, x := range []struct {
		at   byte
		want api.Account
		e    api.Errno
	}{
		{1, api.Account{At: api.Addr{1}, Balance: word.Of(5)}, api.OK},
		{2, api.Account{At: api.Addr{2}, Balance: word.Of(8), Nonce: 2, Code: "c"}, api.OK},
		{3, api.Account{At: api.Addr{3}}, api.OK},
		{4, api.Account{At: api.Addr{4}}, api.OK},
		{5, api.Account{}, api.ErrAccess},
		{0, api.Account{}, api.ErrAccess},
	} {
		if y, e := view.Account(open(), api.Addr{x.at}); !state.Same([]api.Account{y}, []api.Account{x.want}) || e != x.e {
			t.Error(i, y, e)
		}
	}
	// Without a cell it is that of the base, but for its slots.
	v := open()
	v.Cells = nil
	want := few()[1]
	want.Slots = nil
	if y, e := view.Account(v, want.At); !state.Same([]api.Account{y}, []api.Account{want}) || e != api.OK {
		t.Error(y, e)
	}
}

// An account that was emptied is empty, whatever the base has there.
func TestAnEmptyCellIsOne(t *testing.T) {
	v, e := view.SetAccount(open(), api.Account{At: api.Addr{2}})
	x, f := view.Account(v, api.Addr{2})
	if !state.Same([]api.Account{x}, []api.Account{{At: api.Addr{2}}}) || e != api.OK || f != api.OK {
		t.Error(x, e, f)
	}
	if value, e := view.Slot(v, api.Addr{2}, word.Of(1)); value != word.Of(2) || e != api.OK {
		t.Error("its slots are others' cells", value, e)
	}
	v, e = view.SetSlot(open(), api.Addr{2}, word.Of(1), word.Of(0))
	value, f := view.Slot(v, api.Addr{2}, word.Of(1))
	if value != word.Of(0) || e != api.OK || f != api.OK || len(v.Cells) != 5 {
		t.Error(value, e, f)
	}
}

func TestSlot(t *testing.T) {
	for i, x := range []struct {
		at        byte
		key, want int
		e         api.Errno
	}{
		{1, 9, 1, api.OK},
		{2, 1, 2, api.OK},
		{2, 3, 0, api.OK},
		{3, 7, 7, api.OK},
		{4, 0, 0, api.OK},
		{1, 0, 0, api.ErrAccess},
		{2, 0, 0, api.ErrAccess},
		{3, 3, 0, api.ErrAccess},
		{4, 1, 0, api.ErrAccess},
		{5, 0, 0, api.ErrAccess},
	} {
		if y, e := view.Slot(open(), api.Addr{x.at}, word.Of(x.key)); y != word.Of(x.want) || e != x.e {
			t.Error(i, y, e)
		}
	}
}

// An account is not its slots, nor they it.
func TestAnAccountIsDeclaredForItself(t *testing.T) {
	for i, k := range []api.Key{accountKey(3), slotKey(3, 0), slotKey(3, 7)} {
		for n, v := range []api.View{{Base: few(), Sets: api.Sets{Reads: []api.Key{k}}}, {Base: few(), Sets: api.Sets{Writes: []api.Key{k}}}} {
			_, e := view.Account(v, api.Addr{3})
			_, f := view.Slot(v, api.Addr{3}, word.Of(0))
			_, g := view.Slot(v, api.Addr{3}, word.Of(7))
			if (e == api.OK) != (i == 0) || (f == api.OK) != (i == 1) || (g == api.OK) != (i == 2) {
				t.Error(i, n, e, f, g)
			}
			_, e = view.SetAccount(v, api.Account{At: api.Addr{3}})
			_, f = view.SetSlot(v, api.Addr{3}, word.Of(0), word.Of(1))
			_, g = view.SetSlot(v, api.Addr{3}, word.Of(7), word.Of(1))
			if (e == api.OK) != (i == 0 && n == 1) || (f == api.OK) != (i == 1 && n == 1) || (g == api.OK) != (i == 2 && n == 1) {
				t.Error(i, n, e, f, g)
			}
		}
	}
}

// K3

// In whichever order, and however often, they are written: there is one of each key, the last one.
func TestCellsAreInOrder(t *testing.T) {
	keys := declared().Writes
	for from := range keys {
		one := slices.Concat(keys[from:], keys[:from])
		other := slices.Clone(one)
		slices.Reverse(other)
		for n, l := range [][]api.Key{one, other, one[1:], other[2:], slices.Concat(one, other), slices.Concat(one, one), slices.Concat(other, one[:3])} {
			v, e := view.Open(few(), declared())
			var want []api.Cell
			for i, k := range l {
				if k.Slot {
					v, e = view.SetSlot(v, k.At, k.Key, word.Of(i))
				} else {
					v, e = view.SetAccount(v, api.Account{At: k.At, Nonce: i})
				}
				if e != api.OK {
					t.Fatal(from, n, i, e)
				}
			}
			for _, k := range keys {
				last := -1
				for i := range l {
					if l[i] == k {
						last = i
					}
				}
				if k.Slot && last >= 0 {
					want = append(want, api.Cell{Key: k, Value: word.Of(last)})
				} else if last >= 0 {
					want = append(want, api.Cell{Key: k, Nonce: last})
				}
			}
			if tell(v) != tell(api.View{Base: few(), Sets: declared(), Cells: want}) {
				t.Error(from, n, short(tell(v)))
			}
		}
	}
}

func TestSetAccountOfWhatMayJustBe(t *testing.T) {
	for i, x := range []api.Account{
		{At: api.Addr{2}},
		{At: api.Addr{2}, Nonce: 1 << 53},
		{At: api.Addr{2}, Code: strings.Repeat("a", 24576)},
		{At: api.Addr{2}, Balance: word.Of(-1)},
		// Its slots make no difference.
		{At: api.Addr{2}, Nonce: 7, Slots: slotsOf(1, 9, 3, 9)},
		{At: api.Addr{2}, Nonce: 7, Slots: slotsOf(1, 0)},
		{At: api.Addr{2}, Nonce: 7, Slots: slotsOf(2, 1, 1, 1, 1, 1)},
		{At: api.Addr{2}, Nonce: 7, Slots: slotRow(1001)},
	} {
		want := open()
		want.Cells[1] = api.Cell{Key: accountKey(2), Balance: x.Balance, Nonce: x.Nonce, Code: x.Code}
		if v, e := view.SetAccount(open(), x); tell(v) != tell(want) || e != api.OK {
			t.Error(i, short(tell(v)), e)
		}
	}
}

func TestSetAccountOfWhatMayNotBe(t *testing.T) {
	for _, at := range []byte{2, 1, 9} { // declared to be written to, to be read, and not at all
		for i, x := range []api.Account{
			{At: api.Addr{at}, Nonce: -1},
			{At: api.Addr{at}, Nonce: math.MinInt},
			{At: api.Addr{at}, Nonce: 1<<53 + 1},
			{At: api.Addr{at}, Nonce: math.MaxInt},
			{At: api.Addr{at}, Code: strings.Repeat("a", 24577)},
		} {
			if v, e := view.SetAccount(open(), x); tell(v) != tell(open()) || e != api.ErrArg {
				t.Error(at, i, short(tell(v)), e)
			}
		}
	}
}

func TestWhatMayNotBeWrittenTo(t *testing.T) {
	for _, at := range []byte{0, 1, 3, 5, 255} {
		for i, x := range []api.Account{{At: api.Addr{at}}, {At: api.Addr{at}, Nonce: 1}, {At: api.Addr{at}, Slots: slotRow(1001)}} {
			if v, e := view.SetAccount(open(), x); tell(v) != tell(open()) || e != api.ErrAccess {
				t.Error(at, i, short(tell(v)), e)
			}
		}
	}
	for i, k := range []api.Key{slotKey(4, 0), slotKey(2, 2), slotKey(1, 0), slotKey(9, 9), {At: api.Addr{2}, Slot: true, Key: api.Word{1, 1}}, {At: api.Addr{2, 19: 1}, Slot: true, Key: word.Of(1)}} {
		for _, value := range []int{0, 1} {
			if v, e := view.SetSlot(open(), k.At, k.Key, word.Of(value)); tell(v) != tell(open()) || e != api.ErrAccess {
				t.Error(i, short(tell(v)), e)
			}
		}
	}
}

// What is not right is told ahead of what was not declared.
func TestViewsThatAreNotRight(t *testing.T) {
	for i, v := range wrongViews() {
		for _, at := range []api.Addr{{2}, {1}, {9}, {}} {
			if x, e := view.Account(v, at); !state.Same([]api.Account{x}, []api.Account{{}}) || e != api.ErrArg {
				t.Error(i, x, e)
			}
			if x, e := view.Slot(v, at, word.Of(1)); x != (api.Word{}) || e != api.ErrArg {
				t.Error(i, x, e)
			}
			if out, e := view.SetAccount(v, api.Account{At: at, Nonce: 1}); tell(out) != tell(v) || e != api.ErrArg {
				t.Error(i, short(tell(out)), e)
			}
			if out, e := view.SetSlot(v, at, word.Of(1), word.Of(1)); tell(out) != tell(v) || e != api.ErrArg {
				t.Error(i, short(tell(out)), e)
			}
		}
		if s, e := view.Merge(few(), v); len(s) > 0 || e != api.ErrArg {
			t.Error(i, short(tellState(s)), e)
		}
	}
}

// K4

func TestMerge(t *testing.T) {
	v := open()
	for i, x := range []struct{ s, want []api.Account }{
		{few(), []api.Account{
			{At: api.Addr{1}, Balance: word.Of(5), Slots: slotsOf(9, 1)},
			{At: api.Addr{2}, Balance: word.Of(8), Nonce: 2, Code: "c", Slots: slotsOf(1, 2)},
			{At: api.Addr{3}, Slots: slotsOf(7, 7)},
		}},
		// The base makes no difference.
		{nil, []api.Account{{At: api.Addr{1}, Slots: slotsOf(9, 1)}, {At: api.Addr{2}, Balance: word.Of(8), Nonce: 2, Code: "c"}}},
		{[]api.Account{{Nonce: 1}, {At: api.Addr{2}, Slots: slotsOf(3, 3)}, {At: api.Addr{4}, Nonce: 1}, {At: api.Addr{5}, Nonce: 5}}, []api.Account{
			{Nonce: 1},
			{At: api.Addr{1}, Slots: slotsOf(9, 1)},
			{At: api.Addr{2}, Balance: word.Of(8), Nonce: 2, Code: "c"},
			{At: api.Addr{5}, Nonce: 5},
		}},
		{[]api.Account{{At: api.Addr{4}, Nonce: 4, Slots: slotsOf(4, 4)}}, []api.Account{
			{At: api.Addr{1}, Slots: slotsOf(9, 1)},
			{At: api.Addr{2}, Balance: word.Of(8), Nonce: 2, Code: "c"},
			{At: api.Addr{4}, Slots: slotsOf(4, 4)},
		}},
	} {
		if s, e := view.Merge(x.s, v); !state.Same(s, x.want) || e != api.OK || !state.Right(s) {
			t.Error(i, short(tellState(s)), e)
		}
	}
}

func TestMergeOfNothing(t *testing.T) {
	for i, s := range [][]api.Account{nil, few(), row(200)} {
		for _, v := range []api.View{{}, {Base: row(3), Sets: declared()}} {
			if out, e := view.Merge(s, v); !state.Same(out, s) || e != api.OK {
				t.Error(i, short(tellState(out)), e)
			}
		}
	}
}

func TestMergeIntoWhatIsNotRight(t *testing.T) {
	for i, s := range wrongStates() {
		for _, v := range []api.View{{}, open(), {Sets: wrongSets()[0]}} {
			if out, e := view.Merge(s, v); len(out) > 0 || e != api.ErrArg {
				t.Error(i, short(tellState(out)), e)
			}
		}
	}
}

// empty is the cell of a row's account that goes; more is the cell of one behind it.
func empty(i int) api.Cell { return api.Cell{Key: api.Key{At: place(2*i + 1)}} }

func more(i int) api.Cell { return api.Cell{Key: api.Key{At: place(2*i + 2)}, Nonce: 7} }

func oneSlot(at api.Addr, key, value int) api.Cell {
	return api.Cell{Key: api.Key{At: at, Slot: true, Key: word.Of(key)}, Value: word.Of(value)}
}

func TestMergeOfHowManyAccounts(t *testing.T) {
	for i, x := range []struct {
		many  int
		cells []api.Cell
		e     api.Errno
	}{
		{199, []api.Cell{more(5)}, api.OK},
		{200, []api.Cell{more(5)}, api.ErrLong},
		{200, []api.Cell{more(199)}, api.ErrLong},
		{199, []api.Cell{more(5), more(6)}, api.ErrLong},
		{198, []api.Cell{more(5), more(6)}, api.OK},
		{200, []api.Cell{oneSlot(place(2), 1, 1)}, api.ErrLong},
		{200, []api.Cell{oneSlot(place(2), 1, 0), oneSlot(place(2), 2, 0), {Key: api.Key{At: place(4)}}}, api.OK},
		{200, []api.Cell{oneSlot(place(2), 1, 0), oneSlot(place(2), 2, 1), oneSlot(place(2), 3, 0)}, api.ErrLong},
		// One after the other: that one goes first, or that it goes too late, makes a difference.
		{200, []api.Cell{empty(5), more(5)}, api.OK},
		{200, []api.Cell{more(5), empty(6)}, api.ErrLong},
		{200, []api.Cell{empty(5), more(5), empty(6), more(6)}, api.OK},
		{200, []api.Cell{empty(5), more(5), more(6), empty(7)}, api.ErrLong},
		{200, []api.Cell{empty(5), empty(6), more(6), more(7)}, api.OK},
		{200, []api.Cell{empty(5), empty(6), more(6), more(7), more(8), empty(9)}, api.ErrLong},
		// An account that is emptied, and has a slot then, is one still.
		{200, []api.Cell{empty(5), oneSlot(place(11), 1, 1)}, api.OK},
		{200, []api.Cell{empty(5), oneSlot(place(11), 1, 1), more(5)}, api.ErrLong},
		{200, []api.Cell{empty(5), oneSlot(place(11), 1, 0), more(5)}, api.OK},
	} {
		s, e := view.Merge(row(x.many), written(x.cells...))
		want, f := merged(row(x.many), written(x.cells...))
		if !state.Same(s, want) || e != x.e || f != x.e || e == api.OK && !state.Right(s) {
			t.Error(i, e, f, len(s), len(want))
		}
	}
}

func TestMergeOfHowManySlots(t *testing.T) {
	at := api.Addr{7}
	for i, x := range []struct {
		many  int
		cells []api.Cell
		e     api.Errno
	}{
		{999, []api.Cell{oneSlot(at, 1, 1)}, api.OK},
		{1000, []api.Cell{oneSlot(at, 1, 1)}, api.ErrLong},
		{1000, []api.Cell{oneSlot(at, 2, 7)}, api.OK},
		{1000, []api.Cell{oneSlot(at, 1, 0)}, api.OK},
		{999, []api.Cell{oneSlot(at, 1, 1), oneSlot(at, 3, 1)}, api.ErrLong},
		// One after the other: that one goes first, or that it goes too late, makes a difference.
		{1000, []api.Cell{oneSlot(at, 0, 0), oneSlot(at, 1, 1)}, api.OK},
		{1000, []api.Cell{oneSlot(at, 1, 1), oneSlot(at, 2, 0)}, api.ErrLong},
		{1000, []api.Cell{oneSlot(at, 0, 0), oneSlot(at, 1, 1), oneSlot(at, 2, 0), oneSlot(at, 3, 1)}, api.OK},
		{1000, []api.Cell{oneSlot(at, 0, 0), oneSlot(at, 1, 1), oneSlot(at, 3, 1), oneSlot(at, 4, 0)}, api.ErrLong},
		{1000, []api.Cell{{Key: api.Key{At: at}}, oneSlot(at, 0, 0), oneSlot(at, 1, 1)}, api.OK},
		{1000, []api.Cell{{Key: api.Key{At: at}}, oneSlot(at, 1, 1), oneSlot(at, 2, 0)}, api.ErrLong},
		// Another account has room for them.
		{1000, []api.Cell{{Key: accountKey(1), Nonce: 1}, oneSlot(api.Addr{8}, 1, 1)}, api.OK},
		{1000, []api.Cell{{Key: accountKey(1), Nonce: 1}, oneSlot(at, 1, 1), oneSlot(api.Addr{8}, 1, 1)}, api.ErrLong},
	} {
		s := []api.Account{{At: at, Balance: word.Of(1), Slots: slotRow(x.many)}}
		out, e := view.Merge(s, written(x.cells...))
		want, f := merged(s, written(x.cells...))
		if !state.Same(out, want) || e != x.e || f != x.e {
			t.Error(i, e, f, short(tellState(out)))
		}
	}
}

func TestMergeOfAllThatThereMayBe(t *testing.T) {
	s := row(200)
	var cells []api.Cell
	for i := range s {
		s[i].Slots = slotRow(1000)
		cells = append(cells, oneSlot(s[i].At, 2*i, 9))
	}
	v := written(cells...)
	v.Base = s
	out, e := view.Merge(s, v)
	if e != api.OK || !state.Right(out) {
		t.Fatal(e)
	}
	for i := range s {
		s[i].Slots[i].Value = word.Of(9)
	}
	if !state.Same(out, s) {
		t.Error("not those")
	}
}

// K5

func TestTheChaptersExample(t *testing.T) {
	k := slotKey(2, 1)
	v, e := view.Open(few(), api.Sets{Reads: []api.Key{k}})
	value, f := view.Slot(v, k.At, k.Key)
	out, g := view.SetSlot(v, k.At, k.Key, word.Of(9))
	if value != word.Of(2) || e != api.OK || f != api.OK || g != api.ErrAccess || tell(out) != tell(v) {
		t.Error(value, e, f, g)
	}
}

// R3

// viewsOf are the views that the calls tell of one, some of which are as it was.
func viewsOf(v api.View) []api.View {
	var out []api.View
	add := func(v api.View, _ api.Errno) { out = append(out, v) }
	add(view.Open(v.Base, v.Sets))
	add(view.SetAccount(v, api.Account{At: api.Addr{2}, Nonce: 5}))
	add(view.SetAccount(v, api.Account{At: api.Addr{2}, Nonce: -5}))
	add(view.SetAccount(v, api.Account{At: api.Addr{1}, Nonce: 5}))
	add(view.SetSlot(v, api.Addr{2}, word.Of(1), word.Of(3)))
	add(view.SetSlot(v, api.Addr{2}, word.Of(3), word.Of(3)))
	add(view.SetSlot(v, api.Addr{9}, word.Of(3), word.Of(3)))
	return out
}

// statesOf are the states that Merge tells.
func statesOf(v api.View) [][]api.Account {
	var out [][]api.Account
	for _, s := range [][]api.Account{v.Base, nil, few()} {
		for _, cells := range [][]api.Cell{v.Cells, nil} {
			v.Cells = cells
			merged, _ := view.Merge(s, v)
			out = append(out, merged)
		}
	}
	return out
}

// all is all that the calls tell of a view: states are views' bases.
func all(v api.View) []api.View {
	out := viewsOf(v)
	for _, s := range statesOf(v) {
		out = append(out, api.View{Base: s})
	}
	return out
}

// fill writes into all that there is of a list, and behind it.
func fill[T any](l []T, x T) {
	l = l[:cap(l)]
	for i := range l {
		l[i] = x
	}
}

// scribble writes into all that there is of a view, and behind it.
func scribble(v api.View) {
	for _, x := range v.Base[:cap(v.Base)] {
		fill(x.Slots, api.Slot{Key: word.Of(-5), Value: word.Of(-5)})
	}
	fill(v.Base, api.Account{At: api.Addr{66}, Nonce: -6})
	fill(v.Sets.Reads, slotKey(77, -7))
	fill(v.Sets.Writes, slotKey(88, -8))
	fill(v.Cells, api.Cell{Nonce: -9})
}

func tellEach(l []api.View) []string {
	var out []string
	for _, v := range l {
		out = append(out, tell(v))
	}
	return out
}

func TestAnswersAreNewMemory(t *testing.T) {
	wrong := open()
	wrong.Cells[1].Nonce = -1
	for i, v := range []api.View{open(), wrong, {}, {Base: few(), Sets: declared()}} {
		was := tell(v)
		l := all(v)
		told := tellEach(l)
		for k := range l {
			scribble(l[k])
			if tell(v) != was {
				t.Fatal(i, k, "what was handed in is changed")
			}
			if now := tellEach(l[k+1:]); !slices.Equal(now, told[k+1:]) {
				t.Fatal(i, k, "another answer is changed")
			}
		}
		if !slices.Equal(tellEach(all(v)), told) {
			t.Error(i, "not the same for the same")
		}
		l = all(v)
		scribble(v)
		if !slices.Equal(tellEach(l), told) {
			t.Error(i, "what was handed in was kept")
		}
	}
}

// Accounts that share their slots, and sets that share their keys, come out apart.
func TestListsOfOneAnswerShareNothing(t *testing.T) {
	shared := few()
	shared[0].Slots, shared[2].Slots = shared[1].Slots, shared[1].Slots
	keys := declared().Writes
	v := api.View{Base: shared, Sets: api.Sets{Reads: keys[:5], Writes: keys}, Cells: open().Cells}
	for i, out := range all(v) {
		fill(out.Sets.Reads, api.Key{})
		if len(out.Sets.Writes) > 0 && !slices.Equal(out.Sets.Writes, keys) {
			t.Error(i, "keys")
		}
		for k, x := range out.Base {
			others := slices.Concat(out.Base[:k], out.Base[k+1:])
			told := tellState(others)
			fill(x.Slots, api.Slot{Key: word.Of(k), Value: word.Of(-k)})
			if tellState(others) != told {
				t.Error(i, k, "slots")
			}
		}
	}
}

func TestWhatIsHandedInIsNotWrittenInto(t *testing.T) {
	// What stands behind the lengths is another's, too.
	whole := open()
	whole.Base[1].Slots = append(whole.Base[1].Slots, slotRow(9)...)[:2]
	told := tell(whole)
	cells := whole.Cells
	for n := range cells {
		v := api.View{Base: whole.Base[:2], Sets: api.Sets{Reads: whole.Sets.Reads[:3], Writes: whole.Sets.Writes}, Cells: cells[:n]}
		if !view.Right(v) {
			t.Fatal(n)
		}
		all(v)
		for _, k := range v.Sets.Writes {
			view.SetSlot(v, k.At, k.Key, word.Of(7))
			view.SetAccount(v, api.Account{At: k.At, Nonce: 7, Slots: whole.Base[1].Slots})
			view.Account(v, k.At)
			view.Slot(v, k.At, k.Key)
		}
		view.Merge(whole.Base[:1], v)
		view.Merge(whole.Base, v)
		if tell(whole) != told || !slices.Equal(whole.Base[1].Slots[:11], append(slotsOf(1, 2, 3, 4), slotRow(9)...)) {
			t.Fatal(n, short(tell(whole)))
		}
	}
}
