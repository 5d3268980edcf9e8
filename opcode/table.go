package opcode

import (
	"maps"
	"strconv"

	"railhead/api"
)

// byteValues is how many bytes there are, opcodes or not.
const byteValues = 256

// info is what there is to say of an opcode: its name, what it pops, what it pushes, and what it costs at least.
type info api.Info

// look is what a table has for a key; false: nothing.
func look[K comparable, V any](table map[K]V, key K) (V, bool) {
	v, is := table[key]
	return v, is
}

// all is the table of all opcodes that there are.
func all() map[byte]info {
	made := make(map[byte]info, byteValues)
	for first := range 16 {
		maps.Copy(made, row(byte(first)<<4))
	}
	return made
}

// row is the table of those opcodes alone whose first digit to the base 16 is this one's: to ask for one, no more need be made.
func row(op byte) map[byte]info {
	switch op >> 4 {
	case 0x0:
		return reckoning()
	case 0x1:
		return comparing()
	case 0x2:
		return map[byte]info{0x20: {"KECCAK256", 2, 1, 30}}
	case 0x3:
		return asking()
	case 0x4:
		return askingTheBlock()
	case 0x5:
		return keeping()
	case 0x6:
		return numbered(0x60, "PUSH", 1, 16, pushing)
	case 0x7:
		return numbered(0x70, "PUSH", 17, 32, pushing)
	case 0x8:
		return numbered(0x80, "DUP", 1, 16, func(n int) info { return info{Pops: n, Pushes: n + 1, Gas: 3} })
	case 0x9:
		return numbered(0x90, "SWAP", 1, 16, func(n int) info { return info{Pops: n + 1, Pushes: n + 1, Gas: 3} })
	case 0xa:
		return numbered(0xa0, "LOG", 0, 4, func(n int) info { return info{Pops: n + 2, Gas: 375 * (n + 1)} })
	case 0xf:
		return calling()
	}
	return nil
}

// numbered is the table of opcodes, from that one on, whose names end in numbers, from one to another; a rule tells of each number the rest.
func numbered(op byte, name string, from, to int, rule func(n int) info) map[byte]info {
	made := make(map[byte]info, to-from+1)
	for n := from; n <= to; n++ {
		x := rule(n)
		x.Name = name + strconv.Itoa(n)
		made[op] = x
		op++
	}
	return made
}

func pushing(int) info { return info{Pushes: 1, Gas: 3} }

func reckoning() map[byte]info {
	return map[byte]info{
		0x00: {"STOP", 0, 0, 0},
		0x01: {"ADD", 2, 1, 3},
		0x02: {"MUL", 2, 1, 5},
		0x03: {"SUB", 2, 1, 3},
		0x04: {"DIV", 2, 1, 5},
		0x05: {"SDIV", 2, 1, 5},
		0x06: {"MOD", 2, 1, 5},
		0x07: {"SMOD", 2, 1, 5},
		0x08: {"ADDMOD", 3, 1, 8},
		0x09: {"MULMOD", 3, 1, 8},
		0x0a: {"EXP", 2, 1, 10},
		0x0b: {"SIGNEXTEND", 2, 1, 5},
	}
}

func comparing() map[byte]info {
	return map[byte]info{
		0x10: {"LT", 2, 1, 3},
		0x11: {"GT", 2, 1, 3},
		0x12: {"SLT", 2, 1, 3},
		0x13: {"SGT", 2, 1, 3},
		0x14: {"EQ", 2, 1, 3},
		0x15: {"ISZERO", 1, 1, 3},
		0x16: {"AND", 2, 1, 3},
		0x17: {"OR", 2, 1, 3},
		0x18: {"XOR", 2, 1, 3},
		0x19: {"NOT", 1, 1, 3},
		0x1a: {"BYTE", 2, 1, 3},
		0x1b: {"SHL", 2, 1, 3},
		0x1c: {"SHR", 2, 1, 3},
		0x1d: {"SAR", 2, 1, 3},
	}
}

func asking() map[byte]info {
	return map[byte]info{
		0x30: {"ADDRESS", 0, 1, 2},
		0x31: {"BALANCE", 1, 1, 0},
		0x32: {"ORIGIN", 0, 1, 2},
		0x33: {"CALLER", 0, 1, 2},
		0x34: {"CALLVALUE", 0, 1, 2},
		0x35: {"CALLDATALOAD", 1, 1, 3},
		0x36: {"CALLDATASIZE", 0, 1, 2},
		0x37: {"CALLDATACOPY", 3, 0, 3},
		0x38: {"CODESIZE", 0, 1, 2},
		0x39: {"CODECOPY", 3, 0, 3},
		0x3a: {"GASPRICE", 0, 1, 2},
		0x3b: {"EXTCODESIZE", 1, 1, 0},
		0x3c: {"EXTCODECOPY", 4, 0, 0},
		0x3d: {"RETURNDATASIZE", 0, 1, 2},
		0x3e: {"RETURNDATACOPY", 3, 0, 3},
		0x3f: {"EXTCODEHASH", 1, 1, 0},
	}
}

func askingTheBlock() map[byte]info {
	return map[byte]info{
		0x40: {"BLOCKHASH", 1, 1, 20},
		0x41: {"COINBASE", 0, 1, 2},
		0x42: {"TIMESTAMP", 0, 1, 2},
		0x43: {"NUMBER", 0, 1, 2},
		0x44: {"PREVRANDAO", 0, 1, 2},
		0x45: {"GASLIMIT", 0, 1, 2},
		0x46: {"CHAINID", 0, 1, 2},
		0x47: {"SELFBALANCE", 0, 1, 5},
		0x48: {"BASEFEE", 0, 1, 2},
	}
}

func keeping() map[byte]info {
	return map[byte]info{
		0x50: {"POP", 1, 0, 2},
		0x51: {"MLOAD", 1, 1, 3},
		0x52: {"MSTORE", 2, 0, 3},
		0x53: {"MSTORE8", 2, 0, 3},
		0x54: {"SLOAD", 1, 1, 0},
		0x55: {"SSTORE", 2, 0, 0},
		0x56: {"JUMP", 1, 0, 8},
		0x57: {"JUMPI", 2, 0, 10},
		0x58: {"PC", 0, 1, 2},
		0x59: {"MSIZE", 0, 1, 2},
		0x5a: {"GAS", 0, 1, 2},
		0x5b: {"JUMPDEST", 0, 0, 1},
		0x5f: {"PUSH0", 0, 1, 2},
	}
}

func calling() map[byte]info {
	return map[byte]info{
		0xf0: {"CREATE", 3, 1, 32000},
		0xf1: {"CALL", 7, 1, 0},
		0xf2: {"CALLCODE", 7, 1, 0},
		0xf3: {"RETURN", 2, 0, 0},
		0xf4: {"DELEGATECALL", 6, 1, 0},
		0xf5: {"CREATE2", 4, 1, 32000},
		0xfa: {"STATICCALL", 6, 1, 0},
		0xfd: {"REVERT", 2, 0, 0},
		0xfe: {"INVALID", 0, 0, 0},
		0xff: {"SELFDESTRUCT", 1, 0, 5000},
	}
}
