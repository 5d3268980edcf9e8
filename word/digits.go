package word

import (
	"iter"

	"railhead/api"
)

const (
	prefix  = "0x"
	letters = "0123456789abcdef"
)

// pieceDigits is how many digits are taken at once: seven of any base up to 256 are less than 2^56, so that they and their base's power fit into one part.
const pieceDigits = 7

// digit is a byte that stands for a digit, of one of the kinds below.
type digit interface {
	~byte
	base() uint64
	value() (uint64, bool) // false: it is no digit of that kind
}

type (
	octet       byte
	hexadecimal byte
	decimal     byte
)

func (octet) base() uint64       { return 256 }
func (hexadecimal) base() uint64 { return 16 }
func (decimal) base() uint64     { return 10 }

func (d octet) value() (uint64, bool) { return uint64(d), true }

func (d hexadecimal) value() (uint64, bool) {
	switch {
	case '0' <= d && d <= '9':
		return uint64(d - '0'), true
	case 'a' <= d && d <= 'f':
		return uint64(d-'a') + 10, true
	}
	return 0, false
}

func (d decimal) value() (uint64, bool) {
	if d < '0' || d > '9' {
		return 0, false
	}
	return uint64(d - '0'), true
}

// number is the word of digits, the highest one first; false: one of them is none, or the number is too great.
func number[D digit](s string) (api.Word, bool) {
	w := api.Word{}
	for piece := range pieces(s) {
		n, unit, is := small[D](piece)
		if !is {
			return api.Word{}, false
		}
		var over uint64
		if w, over = scale(&w, unit, n); over != 0 {
			return api.Word{}, false
		}
	}
	return w, true
}

// small is the number of a piece's digits, and the power of the base that such a piece counts up to.
func small[D digit](piece string) (n, unit uint64, is bool) {
	unit = 1
	base := D(0).base()
	for i := range len(piece) {
		v, is := D(piece[i]).value()
		if !is {
			return 0, 0, false
		}
		n, unit = n*base+v, unit*base
	}
	return n, unit, true
}

// pieces goes through a text's pieces, of which the last one may be shorter than the others.
func pieces(s string) iter.Seq[string] {
	return func(yield func(string) bool) {
		for at := 0; at < len(s); at += pieceDigits {
			if !yield(s[at:min(at+pieceDigits, len(s))]) {
				return
			}
		}
	}
}
