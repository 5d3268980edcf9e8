package journal

import (
	"bytes"
	"slices"

	"railhead/api"
	"railhead/state"
)

// book is a journal that is worked on, in memory of its own.
type book struct {
	state []api.Account
	undo  stack[api.Change]
	marks stack[int]
}

func bookOf(j api.Journal) book {
	return book{state: copied(j.State), undo: slices.Clone(j.Undo), marks: slices.Clone(j.Marks)}
}

func (b book) journal() api.Journal {
	return api.Journal{State: b.state, Undo: b.undo, Marks: b.marks}
}

// change does one change, and tells what undoes it. The state is a right one.
func (b *book) change(c api.Change) (api.Change, api.Errno) {
	from, is := slices.BinarySearchFunc(b.state, c.At, order)
	to := from
	if is {
		to++
	}
	// What stands at that address is a state too. Of all else only how much there is makes a difference: by Do of the whole it would be gone through, and copied, for each change.
	now, undo, e := state.Do(b.state[from:to], c)
	if e != api.OK {
		return api.Change{}, e
	}
	if len(b.state)-(to-from)+len(now) > api.MaxAccounts {
		return api.Change{}, api.ErrLong
	}
	b.state = slices.Replace(b.state, from, to, now...)
	return undo, api.OK
}

// do does changes, and keeps what undoes them.
func (b *book) do(l []api.Change) api.Errno {
	for _, c := range l {
		if b.undo.full(api.MaxChanges) {
			return api.ErrLong
		}
		undo, e := b.change(c)
		if e != api.OK {
			return e
		}
		b.undo.push(undo)
	}
	return api.OK
}

// undone undoes all changes but the first ones.
func (b *book) undone(many int) api.Errno {
	for c := range b.undo.above(many) {
		if _, e := b.change(c); e != api.OK {
			return e
		}
	}
	b.undo.cut(many)
	return api.OK
}

func (b *book) mark() api.Errno {
	if b.marks.full(api.MaxMarks) {
		return api.ErrLong
	}
	b.marks.push(len(b.undo))
	return api.OK
}

func (b *book) back(mark int) api.Errno {
	if !b.marks.has(mark) {
		return api.ErrNone
	}
	if e := b.undone(b.marks[mark]); e != api.OK {
		return e
	}
	return b.keep(mark)
}

func (b *book) keep(mark int) api.Errno {
	if !b.marks.has(mark) {
		return api.ErrNone
	}
	b.marks.cut(mark)
	return api.OK
}

// fit tells whether marks may be, where there are so many changes.
func fit(marks []int, changes int) bool {
	least := 0
	for _, mark := range marks {
		if mark < least || mark > changes {
			return false
		}
		least = mark
	}
	return true
}

// order is below 0, 0 or above it: an account stands ahead of an address, at it, or behind it.
func order(x api.Account, at api.Addr) int { return bytes.Compare(x.At[:], at[:]) }

// copied are accounts in new memory, their slots too.
func copied(s []api.Account) []api.Account {
	out := slices.Clone(s)
	for place := range out {
		out[place].Slots = slices.Clone(out[place].Slots)
	}
	return out
}
