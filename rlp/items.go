package rlp

import (
	"iter"
	"slices"

	"railhead/api"
	"railhead/word"
)

// all tells an item and all that is in it, as their heads stand in its bytes, each with how many others it is within.
func all(x api.Item) iter.Seq2[int, api.Item] {
	return func(yield func(int, api.Item) bool) { tell(x, 0, yield) }
}

// tell is false as soon as no more is wanted, so that none of those around goes on.
func tell(x api.Item, within int, yield func(int, api.Item) bool) bool {
	if !yield(within, x) {
		return false
	}
	for _, kid := range x.Kids {
		if !tell(kid, within+1, yield) {
			return false
		}
	}
	return true
}

// either tells whether an item is a text or a list, and not something of both.
func either(x api.Item) bool {
	if x.List {
		return x.Bytes == ""
	}
	return len(x.Kids) == 0
}

// copied is items in new memory, at all depths: whoever holds the old ones may go on writing into them.
func copied(l []api.Item) []api.Item {
	out := make([]api.Item, len(l))
	for i, x := range l {
		x.Kids = copied(x.Kids)
		out[i] = x
	}
	return out
}

// gather is what comes of items, when each one is added to what came of those ahead.
func gather[S any](items iter.Seq2[int, api.Item], start S, add func(S, api.Item) S) S {
	for _, x := range items {
		start = add(start, x)
	}
	return start
}

// size is how many bytes a right item has.
func size(x api.Item) int {
	many := held(x)
	return len(head(x, many)) + many
}

// held is how many bytes stand behind a right item's head.
func held(x api.Item) int {
	return gather(slices.All(x.Kids), len(x.Bytes), func(many int, kid api.Item) int { return many + size(kid) })
}

// begun is bytes with those of an item behind them, but for its kids'.
func begun(out []byte, x api.Item) []byte {
	return append(append(out, head(x, held(x))...), x.Bytes...)
}

// head is what stands ahead of what an item holds, which is so many bytes.
func head(x api.Item, many int) string {
	switch {
	case x.List:
		return headOf(listHead, many)
	case bare(x.Bytes):
		return ""
	}
	return headOf(textHead, many)
}

// bare tells whether a text stands for itself, without a head.
func bare(s string) bool { return len(s) == 1 && s[0] < textHead }

// headOf is a head of that kind, ahead of so many bytes.
func headOf(kind, many int) string {
	if many <= mostPlain {
		return string([]byte{byte(kind + many)})
	}
	digits := Number(word.Of(many)).Bytes
	return string([]byte{byte(kind + mostPlain + len(digits))}) + digits
}
