package compute

import (
	"railhead/api"
	"railhead/bit"
	"railhead/divide"
	"railhead/word"
)

const (
	add = iota + 0x01
	mul
	sub
	div
	sdiv
	mod
	smod
	addmod
	mulmod
	exp
	signextend
)

const (
	lt = iota + 0x10
	gt
	slt
	sgt
	eq
	iszero
	and
	or
	xor
	not
	byteof
	shl
	shr
	sar
)

const (
	pop    = 0x50
	dup1   = 0x80
	swap1  = 0x90
	swap16 = 0x9f
)

// What opcodes make of one, two or three words, the top one being a.
type (
	one   func(a api.Word) api.Word
	two   func(a, b api.Word) api.Word
	three func(a, b, c api.Word) api.Word
)

func ofOne() table[one] {
	return table[one]{
		iszero: func(a api.Word) api.Word { return truth(same(a, api.Word{})) },
		not:    bit.Not,
	}
}

func ofTwo() table[two] {
	return table[two]{
		add:        word.Add,
		mul:        word.Mul,
		sub:        word.Sub,
		div:        divide.Div,
		sdiv:       divide.Sdiv,
		mod:        divide.Mod,
		smod:       divide.Smod,
		exp:        divide.Exp,
		signextend: bit.Sign,
		lt:         asked(less),
		gt:         asked(turned(less)),
		slt:        asked(bit.Less),
		sgt:        asked(turned(bit.Less)),
		eq:         asked(same),
		and:        bit.And,
		or:         bit.Or,
		xor:        bit.Xor,
		byteof:     bit.Byte,
		shl:        bit.Shl,
		shr:        bit.Shr,
		sar:        bit.Sar,
	}
}

func ofThree() table[three] {
	return table[three]{
		addmod: divide.Addmod,
		mulmod: divide.Mulmod,
	}
}

// question is what is so of two words, or not.
type question func(a, b api.Word) bool

func less(a, b api.Word) bool { return word.Cmp(a, b) < 0 }

func same(a, b api.Word) bool { return a == b }

// turned asks of b and a what is asked of a and b.
func turned(q question) question {
	return func(a, b api.Word) bool { return q(b, a) }
}

// asked is a question whose answer is a word.
func asked(q question) two {
	return func(a, b api.Word) api.Word { return truth(q(a, b)) }
}

// truth is 1 of what is so, else 0.
func truth(is bool) api.Word {
	if is {
		return word.Of(1)
	}
	return word.Of(0)
}
