package memory

import (
	"iter"
	"strings"
)

const (
	eight   = "\x00\x00\x00\x00\x00\x00\x00\x00"
	noughts = eight + eight + eight + eight // so many as memory mostly grows by
)

// filled tells the parts of so many bytes: a text, and the noughts that it lacks.
func filled(s string, size int) iter.Seq[string] {
	return func(yield func(string) bool) {
		if !yield(s) {
			return
		}
		for lack := size - len(s); lack > 0; lack -= len(noughts) {
			if !yield(noughts[:min(lack, len(noughts))]) {
				return
			}
		}
	}
}

// over tells the parts of a text that has another one over it from a byte on.
func over(m string, at int, s string) iter.Seq[string] {
	return func(yield func(string) bool) {
		_ = yield(m[:at]) && yield(s) && yield(m[at+len(s):])
	}
}

// joined is one text of parts that have so many bytes in all. (These are known ahead, so that all bytes are copied once.)
func joined(size int, parts iter.Seq[string]) string {
	var out strings.Builder
	out.Grow(size)
	for part := range parts {
		out.WriteString(part)
	}
	return out.String()
}
