package stack

import "iter"

// pile is a list whose last one is on top.
type pile[T any] []T

// room is how many more there may be; below 0, if there are too many.
func (p pile[T]) room(most int) int { return most - len(p) }

// place is where the n-th one from the top stands, the top one being the first.
func (p pile[T]) place(n int) int { return len(p) - n }

// top tells the n top ones, the top one first.
func (p pile[T]) top(n int) iter.Seq[T] {
	return func(yield func(T) bool) {
		for nth := 1; nth <= n; nth++ {
			if !yield(p[p.place(nth)]) {
				return
			}
		}
	}
}
