// Package word is layer 1: numbers of 256 bits, and what they are as bytes and as texts.
package word

import (
	"cmp"
	"math/bits"
	"strings"

	"railhead/api"
)

// Of is a number's word; one below 0 counts on from 2^256 downwards.
func Of(n int) api.Word {
	sign := uint64(n >> 63)
	return api.Word{uint64(n), sign, sign, sign}
}

// Int is the number of a word; false: it is greater than MaxInt.
func Int(w api.Word) (int, bool) {
	if Cmp(w, api.Word{api.MaxInt}) > 0 {
		return 0, false
	}
	return int(w[0]), true
}

// Bytes are a word's 32 bytes, the highest one first.
func Bytes(w api.Word) string {
	var out [wordBytes]byte
	at := wordBytes
	for _, part := range parts(&w) {
		for range partBytes {
			at--
			out[at] = byte(part)
			part >>= 8
		}
	}
	return string(out[:])
}

// FromBytes is the word of a text's last 32 bytes, or of all, if there are fewer.
func FromBytes(s string) api.Word {
	// 32 bytes are digits of every kind of byte, and never too many for a word.
	w, _ := number[octet](s[max(0, len(s)-wordBytes):])
	return w
}

// Add is the sum, modulo 2^256.
func Add(a, b api.Word) api.Word {
	sum, _ := join(a, b, 0, bits.Add64)
	return sum
}

// Sub is the difference, modulo 2^256.
func Sub(a, b api.Word) api.Word {
	difference, _ := join(a, b, 0, bits.Sub64)
	return difference
}

// Mul is the product, modulo 2^256.
func Mul(a, b api.Word) api.Word {
	product := api.Word{}
	for place, factor := range parts(&b) {
		addRow(product[place:], &a, factor)
	}
	return product
}

// Cmp is -1, 0 or 1: a's number is less than b's, it is the same, it is greater.
func Cmp(a, b api.Word) int {
	_, order := join(a, b, 0, func(x, y uint64, below int) (uint64, int) {
		return 0, cmp.Or(cmp.Compare(x, y), below)
	})
	return order
}

// Hex is a word's text to the base 16, which Parse reads.
func Hex(w api.Word) string {
	text := make([]byte, 0, 2*wordBytes)
	for _, b := range []byte(Bytes(w)) {
		text = append(text, letters[b>>4], letters[b&15])
	}
	return prefix + cmp.Or(strings.TrimLeft(string(text), "0"), "0")
}

// Parse is the word of a text of digits to the base 16, behind 0x, or to the base 10.
func Parse(s string) (api.Word, api.Errno) {
	digits, sixteen := strings.CutPrefix(s, prefix)
	if digits == "" || digits[0] == '0' && digits != "0" {
		return api.Word{}, api.ErrText
	}
	read := number[decimal]
	if sixteen {
		read = number[hexadecimal]
	}
	w, is := read(digits)
	if !is {
		return api.Word{}, api.ErrText
	}
	return w, api.OK
}
