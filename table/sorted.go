package table

import "iter"

// sorted is a table of any keys and values. It has its rows told where they stand, so that they need not be copied to be gone through.
type sorted[K, V any] struct {
	many  int
	key   func(place int) K
	value func(place int) V
	order func(a, b K) int
}

// rises tells whether each key is greater than the one ahead of it.
func (t sorted[K, V]) rises() bool {
	for place := 1; place < t.many; place++ {
		if t.order(t.key(place-1), t.key(place)) >= 0 {
			return false
		}
	}
	return true
}

// pair is what two tables keep for one key.
type pair[V any] struct {
	first, second V    // the zero value, where nothing is kept
	inSecond      bool // a value that is kept may be the zero value, too
}

// both goes through two tables whose keys rise at once: each key that is in one of them, in order, with what both keep for it.
func both[K, V any](a, b sorted[K, V]) iter.Seq2[K, pair[V]] {
	return func(yield func(K, pair[V]) bool) {
		i, j := 0, 0
		for i < a.many || j < b.many {
			var key K
			var x pair[V]
			order := next(a, i, b, j)
			if order <= 0 {
				key, x.first = a.key(i), a.value(i)
				i++
			}
			if order >= 0 {
				key, x.second, x.inSecond = b.key(j), b.value(j), true
				j++
			}
			if !yield(key, x) {
				return
			}
		}
	}
}

// next tells whose key comes next: a's, if it is below 0, b's, if it is above 0, or both have it. One that is at its end has no more keys.
func next[K, V any](a sorted[K, V], i int, b sorted[K, V], j int) int {
	switch {
	case i == a.many:
		return 1
	case j == b.many:
		return -1
	}
	return a.order(a.key(i), b.key(j))
}
