package state

import (
	"bytes"
	"slices"

	"railhead/api"
	"railhead/table"
)

// may tells whether an account may be, an empty one too.
func may(x api.Account) bool {
	return x.Nonce >= 0 && x.Nonce <= api.MaxNonce && len(x.Code) <= api.MaxCode && table.Right(x.Slots)
}

// stray tells whether an account may be in no state.
func stray(x api.Account) bool { return Empty(x) || !may(x) }

// alike tells whether two accounts are the same.
func alike(a, b api.Account) bool {
	return a.At == b.At && a.Balance == b.Balance && a.Nonce == b.Nonce && a.Code == b.Code && slices.Equal(a.Slots, b.Slots)
}

// rises tells whether each account's address is greater than that of the one ahead of it.
func rises(s []api.Account) bool {
	for place := 1; place < len(s); place++ {
		if order(s[place-1], s[place].At) >= 0 {
			return false
		}
	}
	return true
}

// order is below 0, 0 or above it: an account stands ahead of an address, at it, or behind it.
func order(x api.Account, at api.Addr) int { return bytes.Compare(x.At[:], at[:]) }

// put is a right state with that account at its address, if that one may be.
func put(s []api.Account, x api.Account) ([]api.Account, api.Errno) {
	if !may(x) {
		return nil, api.ErrArg
	}
	from, is := slices.BinarySearchFunc(s, x.At, order)
	to := from
	if is {
		to++
	}
	var there []api.Account
	if !Empty(x) {
		there = append(there, x)
	}
	if len(s)-(to-from)+len(there) > api.MaxAccounts {
		return nil, api.ErrLong
	}
	return copied(slices.Concat(s[:from], there, s[to:]), own), api.OK
}

// own is an account whose slots are new memory.
func own(x api.Account) api.Account {
	x.Slots = slices.Clone(x.Slots)
	return x
}

// copied is a list in new memory, whose elements are copied one by one: what they hold would be shared otherwise.
func copied[T any](l []T, one func(T) T) []T {
	out := make([]T, 0, len(l))
	for _, x := range l {
		out = append(out, one(x))
	}
	return out
}
