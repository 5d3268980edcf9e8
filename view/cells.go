package view

import (
	"railhead/access"
	"railhead/api"
	"railhead/state"
	"railhead/table"
)

// may tells whether there may be a cell, if its key may be.
func may(c api.Cell) bool {
	if c.Key.Slot {
		return c.Balance == api.Word{} && c.Nonce == 0 && c.Code == ""
	}
	return c.Nonce >= 0 && c.Nonce <= api.MaxNonce && len(c.Code) <= api.MaxCode && c.Value == api.Word{}
}

// fit tells whether cells may be in a view of these sets, which are right.
func fit(cells []api.Cell, s api.Sets) bool {
	// Each key is one of Writes, once: what is too long is not gone through.
	if len(cells) > len(s.Writes) {
		return false
	}
	for place, c := range cells {
		if place > 0 && access.Order(cells[place-1].Key, c.Key) >= 0 {
			return false
		}
		// A key that is in sets that are right may be.
		if !may(c) || !access.May(s, c.Key, true) {
			return false
		}
	}
	return true
}

// accountCell is the cell of an account, whose slots have cells of their own.
func accountCell(x api.Account) api.Cell {
	return api.Cell{Key: accountKey(x), Balance: x.Balance, Nonce: x.Nonce, Code: x.Code}
}

// under is the cell of what a state has for a key.
func under(s []api.Account, k api.Key) api.Cell {
	x := state.Find(s, k.At)
	if k.Slot {
		return api.Cell{Key: k, Value: table.Get(x.Slots, k.Key)}
	}
	return accountCell(x)
}
