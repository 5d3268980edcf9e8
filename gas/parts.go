package gas

import (
	"cmp"
	"iter"

	"railhead/api"
	"railhead/word"
)

const (
	wordBytes = 32
	nought    = "\x00"
)

// sum is what things cost together.
func sum[T any](things iter.Seq[T], cost func(T) int) int {
	all := 0
	for thing := range things {
		all += cost(thing)
	}
	return all
}

// limited is the one next to x of those from least to most, by their order.
func limited[N any](x, least, most N, order func(a, b N) int) N {
	switch {
	case order(x, least) < 0:
		return least
	case order(x, most) > 0:
		return most
	}
	return x
}

// many is as how many so many bytes count.
func many(n int) int { return limited(n, 0, api.MaxMemory, cmp.Compare) }

// words is how many words hold so many bytes.
func words(n int) int { return (many(n) + wordBytes - 1) / wordBytes }

// number is a word's number, but most, if it is greater.
func number(w api.Word, most int) int {
	n, _ := word.Int(limited(w, api.Word{}, word.Of(most), word.Cmp))
	return n
}

// bytes tells the bytes of a text.
func bytes(s string) iter.Seq[byte] {
	return func(yield func(byte) bool) {
		for place := range len(s) {
			if !yield(s[place]) {
				return
			}
		}
	}
}

// once tells the keys of all lists, each where it comes first.
func once(lists ...[]api.Key) iter.Seq[api.Key] {
	return func(yield func(api.Key) bool) {
		told := map[api.Key]struct{}{}
		for _, list := range lists {
			for _, key := range list {
				if _, is := told[key]; is {
					continue
				}
				told[key] = struct{}{}
				if !yield(key) {
					return
				}
			}
		}
	}
}
