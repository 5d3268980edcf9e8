package view

import (
	"iter"
	"slices"

	"railhead/access"
	"railhead/api"
)

// Cells and accounts are tables alike: lists of rows whose keys rise.

// span is where the row of a key stands, from one place to the next one; if there is none, both are the place where it would stand.
func span[T any](l []T, key func(T) api.Key, k api.Key) (from, to int) {
	from, is := slices.BinarySearchFunc(l, k, func(x T, k api.Key) int { return access.Order(key(x), k) })
	if is {
		return from, from + 1
	}
	return from, from
}

// put is a table in new memory that has these for a key, in place of what it had.
func put[T any](l []T, key func(T) api.Key, k api.Key, these ...T) []T {
	from, to := span(l, key, k)
	return slices.Concat(l[:from], these, l[to:])
}

// of tells the rows of one address, in order.
func of[T any](l []T, key func(T) api.Key, at api.Addr) iter.Seq[T] {
	return func(yield func(T) bool) {
		// No key of an address is ahead of its account's.
		from, _ := span(l, key, api.Key{At: at})
		for _, x := range l[from:] {
			if key(x).At != at || !yield(x) {
				return
			}
		}
	}
}

func cellKey(c api.Cell) api.Key { return c.Key }

func accountKey(x api.Account) api.Key { return api.Key{At: x.At} }
