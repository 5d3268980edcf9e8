package journal

import "iter"

// stack is a list that grows and shrinks at its end.
type stack[T any] []T

// full tells whether there are as many as there may be.
func (s stack[T]) full(most int) bool { return len(s) >= most }

// has tells whether there is one at a place.
func (s stack[T]) has(place int) bool { return place >= 0 && place < len(s) }

func (s *stack[T]) push(x T) { *s = append(*s, x) }

// cut leaves so many of the first ones.
func (s *stack[T]) cut(many int) { *s = (*s)[:many] }

// above tells what cut would take, the last one first.
func (s stack[T]) above(many int) iter.Seq[T] {
	return func(yield func(T) bool) {
		for place := len(s) - 1; place >= many; place-- {
			if !yield(s[place]) {
				return
			}
		}
	}
}
