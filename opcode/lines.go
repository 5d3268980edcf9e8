package opcode

import (
	"strings"

	"railhead/api"
)

const (
	blank   = " "
	newline = "\n"
	prefix  = "0x"
	letters = "0123456789abcdef"
)

// title is the first word of an opcode's line: its name, or its digits, if it has none.
func title(table map[byte]info, op byte) string {
	if x, is := look(table, op); is {
		return x.Name
	}
	return digits(string([]byte{op}))
}

// titles are all bytes, opcodes or not, by the first words of their lines.
func titles() map[string]byte {
	table := all()
	made := make(map[string]byte, byteValues)
	for n := range byteValues {
		op := byte(n)
		made[title(table, op)] = op
	}
	return made
}

// read is the code of a line, which may be the last one.
func read(table map[string]byte, line string, last bool) (string, api.Errno) {
	first, rest, more := strings.Cut(line, blank)
	op, is := look(table, first)
	code, n := string([]byte{op}), pushed(op)
	switch {
	case !is:
		return "", api.ErrOp
	case n == 0 && more:
		return "", api.ErrText
	case n == 0:
		return code, api.OK
	}
	bytes, is := undigits(rest, n)
	if !is || len(bytes) < n && !last {
		return "", api.ErrText
	}
	return code + bytes, api.OK
}

// digits is a text's bytes to the base 16.
func digits(bytes string) string {
	var out strings.Builder
	out.WriteString(prefix)
	for _, b := range []byte(bytes) {
		out.WriteByte(letters[b>>4])
		out.WriteByte(letters[b&15])
	}
	return out.String()
}

// undigits is the text of at most so many bytes that has these digits; false: there is none.
func undigits(s string, most int) (string, bool) {
	s, is := strings.CutPrefix(s, prefix)
	if !is || len(s)%2 > 0 || len(s) > 2*most {
		return "", false
	}
	var out []byte
	for at := 0; at < len(s); at += 2 {
		high, low := strings.IndexByte(letters, s[at]), strings.IndexByte(letters, s[at+1])
		if high < 0 || low < 0 {
			return "", false
		}
		out = append(out, byte(high<<4|low))
	}
	return string(out), true
}
