package memory

import (
	"cmp"

	"railhead/api"
	"railhead/word"
)

// limited is the one next to x of those from 0 to most, by their order; true: it is x.
func limited[N any](x, most N, order func(a, b N) int) (N, bool) {
	var none N
	switch {
	case order(x, none) < 0:
		return none, false
	case order(x, most) > 0:
		return most, false
	}
	return x, true
}

// number is a word's number, but most, if it is greater.
func number(w api.Word, most int) int {
	w, _ = limited(w, word.Of(most), word.Cmp)
	n, _ := word.Int(w)
	return n
}

// roundedUp is how many words hold so many bytes.
func roundedUp(bytes int) int { return (bytes + wordBytes - 1) / wordBytes }

// may tells whether memory may be.
func may(m string) bool { return len(m) <= api.MaxMemory && len(m)%wordBytes == 0 }

// there tells whether memory may be, and that piece of it is there.
func there(m string, at, n int) bool {
	if _, is := limited(n, len(m), cmp.Compare); !is {
		return false
	}
	_, is := limited(at, len(m)-n, cmp.Compare)
	return is && may(m)
}
