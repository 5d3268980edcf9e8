package view

import (
	"slices"

	"railhead/api"
	"railhead/state"
	"railhead/table"
)

// merged is a right state, in new memory, behind cells that may be.
func merged(s []api.Account, cells []api.Cell) ([]api.Account, api.Errno) {
	for _, at := range addresses(cells) {
		x, e := behind(state.Find(s, at), cells)
		if e != api.OK {
			return nil, e
		}
		// It is set once, in a state of its own: of all the others only how many there are makes a difference, and what one cell puts at an address no other one takes away.
		there, e := state.Set(nil, x)
		if e != api.OK {
			return nil, e
		}
		s = put(s, accountKey, accountKey(x), there...)
		if len(s) > api.MaxAccounts {
			return nil, api.ErrLong
		}
	}
	return copied(s), api.OK
}

// addresses are those of which there are cells, in order, each once.
func addresses(cells []api.Cell) []api.Addr {
	var out []api.Addr
	for _, c := range cells {
		out = append(out, c.Key.At)
	}
	return slices.Compact(out)
}

// behind is an account behind the cells of its address. They are put one by one: that there are too many slots on the way is an error, too.
func behind(x api.Account, cells []api.Cell) (api.Account, api.Errno) {
	e := api.OK
	for c := range of(cells, cellKey, x.At) {
		if x, e = over(x, c); e != api.OK {
			return api.Account{}, e
		}
	}
	return x, api.OK
}

// over is an account behind one of these cells.
func over(x api.Account, c api.Cell) (api.Account, api.Errno) {
	e := api.OK
	if c.Key.Slot {
		x.Slots, e = table.Put(x.Slots, c.Key.Key, c.Value)
	} else {
		x.Balance, x.Nonce, x.Code = c.Balance, c.Nonce, c.Code
	}
	return x, e
}
