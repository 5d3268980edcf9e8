package frame

import (
	"railhead/api"
	"railhead/compute"
	"railhead/keccak"
	"railhead/memory"
	"railhead/opcode"
)

// Opcodes: of those that work on the stack alone, EXP is the one that costs more for what it works on.
const (
	opStop           = 0x00
	opExp            = 0x0a
	opKeccak256      = 0x20
	opCalldataload   = 0x35
	opCalldatasize   = 0x36
	opCalldatacopy   = 0x37
	opCodesize       = 0x38
	opCodecopy       = 0x39
	opReturndatasize = 0x3d
	opReturndatacopy = 0x3e
	opMload          = 0x51
	opMstore         = 0x52
	opMstore8        = 0x53
	opJump           = 0x56
	opJumpi          = 0x57
	opPc             = 0x58
	opMsize          = 0x59
	opGas            = 0x5a
	opJumpdest       = 0x5b
	opPush0          = 0x5f
	opPush32         = 0x7f
	opReturn         = 0xf3
	opRevert         = 0xfd
	opInvalid        = 0xfe
)

// deed is what an opcode does that was paid, or why it fails.
type deed func(m *move) api.Errno

// deeds are what opcodes do, each in its own way.
func deeds() map[byte]deed {
	return map[byte]deed{
		opStop:           (*move).stop,
		opKeccak256:      (*move).hash,
		opCalldataload:   (*move).loadInput,
		opCalldatasize:   (*move).inputSize,
		opCalldatacopy:   (*move).copyInput,
		opCodesize:       (*move).codeSize,
		opCodecopy:       (*move).copyCode,
		opReturndatasize: (*move).retSize,
		opReturndatacopy: (*move).copyRet,
		opMload:          (*move).load,
		opMstore:         (*move).store,
		opMstore8:        (*move).storeByte,
		opJump:           (*move).jump,
		opJumpi:          (*move).jumpIf,
		opPc:             (*move).place,
		opMsize:          (*move).memorySize,
		opGas:            (*move).gasLeft,
		opJumpdest:       (*move).land,
		opReturn:         (*move).giveBack,
		opRevert:         (*move).revert,
		opInvalid:        (*move).none,
	}
}

func (m *move) none() api.Errno { return api.ErrOp }

func (m *move) compute() (e api.Errno) {
	m.Stack, e = compute.Do(m.op, m.was.Stack)
	return e
}

func (m *move) pushCode() api.Errno {
	many := int(m.op) - opPush0
	m.PC += many
	return m.push(opcode.Push(m.Code, m.was.PC, many))
}

func (m *move) stop() api.Errno {
	m.end(api.Stopped)
	return api.OK
}

func (m *move) hash() api.Errno {
	text, e := m.text(m.told())
	if e != api.OK {
		return e
	}
	return m.pushBytes(keccak.Sum(text))
}

func (m *move) loadInput() api.Errno {
	return m.pushBytes(memory.Piece(m.Input, m.taken[0], wordBytes))
}

func (m *move) inputSize() api.Errno { return m.pushNumber(len(m.Input)) }

func (m *move) copyInput() api.Errno { return m.copyFrom(m.Input) }

func (m *move) codeSize() api.Errno { return m.pushNumber(len(m.Code)) }

func (m *move) copyCode() api.Errno { return m.copyFrom(m.Code) }

func (m *move) retSize() api.Errno { return m.pushNumber(len(m.Ret)) }

// copyRet, unlike the others that copy, puts no noughts behind the end: all of the piece has to be there, and an empty one may not be beyond the end either.
func (m *move) copyRet() api.Errno {
	if number(m.taken[1]) > len(m.Ret)-number(m.taken[2]) {
		return api.ErrRange
	}
	return m.copyFrom(m.Ret)
}

func (m *move) load() api.Errno { return m.pushBytes(m.text(m.bytes(wordBytes))) }

func (m *move) store() (e api.Errno) {
	m.Mem, e = memory.Store(m.Mem, number(m.taken[0]), m.taken[1])
	return e
}

func (m *move) storeByte() (e api.Errno) {
	m.Mem, e = memory.Byte(m.Mem, number(m.taken[0]), m.taken[1])
	return e
}

func (m *move) jump() api.Errno {
	to := number(m.taken[0])
	if !m.runner.mayJump(m.Code, to) {
		return api.ErrJump
	}
	m.PC = to
	return api.OK
}

func (m *move) jumpIf() api.Errno {
	if m.taken[1] == (api.Word{}) {
		return api.OK
	}
	return m.jump()
}

func (m *move) place() api.Errno { return m.pushNumber(m.was.PC) }

func (m *move) memorySize() api.Errno { return m.pushNumber(len(m.Mem)) }

// gasLeft tells what is left when it is paid itself.
func (m *move) gasLeft() api.Errno { return m.pushNumber(m.Gas) }

func (m *move) land() api.Errno { return api.OK }

func (m *move) giveBack() api.Errno { return m.tell(api.Returned) }

func (m *move) revert() api.Errno { return m.tell(api.Reverted) }
