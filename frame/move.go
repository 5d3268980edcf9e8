package frame

import (
	"railhead/api"
	"railhead/gas"
	"railhead/memory"
	"railhead/stack"
	"railhead/word"
)

// move is one step: the frame as it comes to be, and as it was, the opcode, and what it took from the stack, the top one first.
type move struct {
	api.Frame
	was    api.Frame
	op     byte
	taken  []api.Word
	runner *runner
}

// paid pays what an opcode costs at least, and what the table names; false: there is too little.
func (m *move) paid(least int) bool {
	switch m.op {
	case opExp:
		return m.pay(least + gas.Exp(m.taken[1]))
	case opKeccak256:
		return m.pay(least+gas.Hash(number(m.taken[1])), m.told())
	case opCalldatacopy, opCodecopy, opReturndatacopy:
		return m.pay(least+gas.Copy(number(m.taken[2])), m.target())
	case opMload, opMstore:
		return m.pay(least, m.bytes(wordBytes))
	case opMstore8:
		return m.pay(least, m.bytes(1))
	case opReturn, opRevert:
		return m.pay(least, m.told())
	}
	return m.pay(least)
}

// pay pays so much, and for the spans that are reached, all together; false: there is too little.
func (m *move) pay(cost int, spans ...span) bool {
	had := len(m.Mem) / wordBytes
	has, is := reached(had, spans...)
	cost += memory.Cost(has) - memory.Cost(had)
	if !is || cost > m.Gas {
		return false
	}
	m.Gas -= cost
	m.Mem, _ = memory.Grow(m.Mem, has)
	return true
}

// told is the span that an opcode works on: where it begins is on top, then how long it is.
func (m *move) told() span { return span{m.taken[0], m.taken[1]} }

// target is the span that an opcode copies to: how long it is comes behind where it is copied from.
func (m *move) target() span { return span{m.taken[0], m.taken[2]} }

// bytes are so many bytes, from where the top word tells on.
func (m *move) bytes(n int) span { return span{m.taken[0], word.Of(n)} }

// text is a span that was reached.
func (m *move) text(s span) (string, api.Errno) {
	return memory.Slice(m.Mem, s.from(), number(s.n))
}

// push puts a word on top.
func (m *move) push(w api.Word) (e api.Errno) {
	m.Stack, e = stack.Push(m.Stack, w)
	return e
}

func (m *move) pushNumber(n int) api.Errno { return m.push(word.Of(n)) }

// pushBytes puts the word of some bytes on top, if there are any: it takes what tells bytes, or an error.
func (m *move) pushBytes(s string, e api.Errno) api.Errno {
	if e != api.OK {
		return e
	}
	return m.push(word.FromBytes(s))
}

// copyFrom puts a piece of a text into memory.
func (m *move) copyFrom(s string) api.Errno {
	to := m.target()
	piece, e := memory.Piece(s, m.taken[1], number(to.n))
	if e == api.OK {
		m.Mem, e = memory.Copy(m.Mem, to.from(), piece)
	}
	return e
}

// end ends the frame at its opcode, which it is not behind then.
func (m *move) end(status int) {
	m.Status, m.PC = status, m.was.PC
}

// tell ends the frame with what it tells.
func (m *move) tell(status int) (e api.Errno) {
	m.Out, e = m.text(m.told())
	m.end(status)
	return e
}
