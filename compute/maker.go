package compute

import "railhead/api"

// making is what comes of the words that were taken, the top one first.
type making func(taken []api.Word) []api.Word

// table has for opcodes what they make of words, F being a function of as many as they take.
type table[F any] map[byte]F

// maker is what comes of the words that an opcode takes: one, two or three.
func maker(op byte, many int) making {
	switch many {
	case 1:
		return look(ofOne(), op, func(f one, l []api.Word) api.Word { return f(l[0]) })
	case 2:
		return look(ofTwo(), op, func(f two, l []api.Word) api.Word { return f(l[0], l[1]) })
	}
	return look(ofThree(), op, func(f three, l []api.Word) api.Word { return f(l[0], l[1], l[2]) })
}

// look is what a table has for an opcode, as what is called with all that was taken. POP stands in no table: nothing comes of what it takes.
func look[F any](t table[F], op byte, call func(f F, taken []api.Word) api.Word) making {
	f, is := t[op]
	if !is {
		return nothing
	}
	return func(taken []api.Word) []api.Word { return []api.Word{call(f, taken)} }
}

func nothing([]api.Word) []api.Word { return nil }
