package state

import (
	"iter"

	"railhead/api"
	"railhead/rlp"
	"railhead/word"
)

// items tells the item of each element of a list, in order.
func items[T any](l []T, item func(T) api.Item) iter.Seq[api.Item] {
	return func(yield func(api.Item) bool) {
		for _, x := range l {
			if !yield(item(x)) {
				return
			}
		}
	}
}

// list is the list of the items of all elements.
func list[T any](l []T, item func(T) api.Item) api.Item {
	var kids []api.Item
	for kid := range items(l, item) {
		kids = append(kids, kid)
	}
	return rlp.List(kids...)
}

func accountItem(x api.Account) api.Item {
	return rlp.List(
		rlp.Text(string(x.At[:])),
		rlp.Number(word.Of(x.Nonce)),
		rlp.Number(x.Balance),
		rlp.Text(x.Code),
		list(x.Slots, slotItem),
	)
}

func slotItem(s api.Slot) api.Item { return rlp.List(rlp.Number(s.Key), rlp.Number(s.Value)) }
