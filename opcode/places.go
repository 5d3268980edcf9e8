package opcode

import "iter"

const (
	mostPushed = push32 - push1 + 1
	eight      = "\x00\x00\x00\x00\x00\x00\x00\x00"
	noughts    = eight + eight + eight + eight // as many as may be pushed
)

// places tells the places of a code's opcodes, and which ones these are: what is pushed is none.
func places(code string) iter.Seq2[int, byte] {
	return func(yield func(int, byte) bool) {
		for place := 0; place < len(code); place += 1 + pushed(code[place]) {
			if !yield(place, code[place]) {
				return
			}
		}
	}
}

// pushed is how many bytes stand behind an opcode, where the code does not end ahead of that.
func pushed(op byte) int {
	if op < push1 || op > push32 {
		return 0
	}
	return int(op) - push1 + 1
}

// behind are the n bytes behind a place of a code, as many of them as it has.
func behind(code string, place, n int) string {
	rest := code[place+1:]
	return rest[:min(n, len(rest))]
}
