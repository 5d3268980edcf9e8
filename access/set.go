package access

import (
	"iter"
	"slices"
)

// set is what a list has, in order, each once, in new memory.
func set[T any](l []T, order func(a, b T) int) []T {
	out := slices.Clone(l)
	slices.SortFunc(out, order)
	return slices.CompactFunc(out, func(a, b T) bool { return order(a, b) == 0 })
}

// rises tells whether each one is greater than the one ahead of it.
func rises[T any](l []T, order func(a, b T) int) bool {
	for place := 1; place < len(l); place++ {
		if order(l[place-1], l[place]) >= 0 {
			return false
		}
	}
	return true
}

// both goes through two lists that rise at once, and tells what is in both, in order.
func both[T any](a, b []T, order func(a, b T) int) iter.Seq[T] {
	return func(yield func(T) bool) {
		i, j := 0, 0
		for i < len(a) && j < len(b) {
			way := order(a[i], b[j])
			if way == 0 && !yield(a[i]) {
				return
			}
			if way <= 0 {
				i++
			}
			if way >= 0 {
				j++
			}
		}
	}
}
