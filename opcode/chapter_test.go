package opcode_test

import (
	"fmt"
	"math/big"
	"regexp"
	"slices"
	"strconv"
	"strings"
	"testing"

	"railhead/api"
	"railhead/opcode"
)

// What follows says what the chapter says: opcodes by its table, codes by what stands behind each opcode, lines by patterns.

// told is the chapter's table of opcodes that have no number.
const told = `
| 00 | STOP 0 0 0 | 01 | ADD 2 1 3 | 02 | MUL 2 1 5 | 03 | SUB 2 1 3 |
| 04 | DIV 2 1 5 | 05 | SDIV 2 1 5 | 06 | MOD 2 1 5 | 07 | SMOD 2 1 5 |
| 08 | ADDMOD 3 1 8 | 09 | MULMOD 3 1 8 | 0a | EXP 2 1 10 | 0b | SIGNEXTEND 2 1 5 |
| 10 | LT 2 1 3 | 11 | GT 2 1 3 | 12 | SLT 2 1 3 | 13 | SGT 2 1 3 |
| 14 | EQ 2 1 3 | 15 | ISZERO 1 1 3 | 16 | AND 2 1 3 | 17 | OR 2 1 3 |
| 18 | XOR 2 1 3 | 19 | NOT 1 1 3 | 1a | BYTE 2 1 3 | 1b | SHL 2 1 3 |
| 1c | SHR 2 1 3 | 1d | SAR 2 1 3 | 20 | KECCAK256 2 1 30 | 30 | ADDRESS 0 1 2 |
| 31 | BALANCE 1 1 0 | 32 | ORIGIN 0 1 2 | 33 | CALLER 0 1 2 | 34 | CALLVALUE 0 1 2 |
| 35 | CALLDATALOAD 1 1 3 | 36 | CALLDATASIZE 0 1 2 | 37 | CALLDATACOPY 3 0 3 | 38 | CODESIZE 0 1 2 |
| 39 | CODECOPY 3 0 3 | 3a | GASPRICE 0 1 2 | 3b | EXTCODESIZE 1 1 0 | 3c | EXTCODECOPY 4 0 0 |
| 3d | RETURNDATASIZE 0 1 2 | 3e | RETURNDATACOPY 3 0 3 | 3f | EXTCODEHASH 1 1 0 | 40 | BLOCKHASH 1 1 20 |
| 41 | COINBASE 0 1 2 | 42 | TIMESTAMP 0 1 2 | 43 | NUMBER 0 1 2 | 44 | PREVRANDAO 0 1 2 |
| 45 | GASLIMIT 0 1 2 | 46 | CHAINID 0 1 2 | 47 | SELFBALANCE 0 1 5 | 48 | BASEFEE 0 1 2 |
| 50 | POP 1 0 2 | 51 | MLOAD 1 1 3 | 52 | MSTORE 2 0 3 | 53 | MSTORE8 2 0 3 |
| 54 | SLOAD 1 1 0 | 55 | SSTORE 2 0 0 | 56 | JUMP 1 0 8 | 57 | JUMPI 2 0 10 |
| 58 | PC 0 1 2 | 59 | MSIZE 0 1 2 | 5a | GAS 0 1 2 | 5b | JUMPDEST 0 0 1 |
| f0 | CREATE 3 1 32000 | f1 | CALL 7 1 0 | f2 | CALLCODE 7 1 0 | f3 | RETURN 2 0 0 |
| f4 | DELEGATECALL 6 1 0 | f5 | CREATE2 4 1 32000 | fa | STATICCALL 6 1 0 | fd | REVERT 2 0 0 |
| fe | INVALID 0 0 0 | ff | SELFDESTRUCT 1 0 5000 | | | | |
`

var cell = regexp.MustCompile(`\| ([0-9a-f]{2}) \| ([A-Z0-9]+) (\d+) (\d+) (\d+) `)

// infos are all opcodes that there are.
var infos = func() map[byte]api.Info {
	out := map[byte]api.Info{}
	for _, x := range cell.FindAllStringSubmatch(told, -1) {
		op, _ := strconv.ParseUint(x[1], 16, 8)
		pops, _ := strconv.Atoi(x[3])
		pushes, _ := strconv.Atoi(x[4])
		gas, _ := strconv.Atoi(x[5])
		out[byte(op)] = api.Info{Name: x[2], Pops: pops, Pushes: pushes, Gas: gas}
	}
	out[0x5f] = api.Info{Name: "PUSH0", Pops: 0, Pushes: 1, Gas: 2}
	for n := 1; n <= 32; n++ {
		out[byte(0x60+n-1)] = api.Info{Name: fmt.Sprint("PUSH", n), Pops: 0, Pushes: 1, Gas: 3}
	}
	for n := 1; n <= 16; n++ {
		out[byte(0x80+n-1)] = api.Info{Name: fmt.Sprint("DUP", n), Pops: n, Pushes: n + 1, Gas: 3}
		out[byte(0x90+n-1)] = api.Info{Name: fmt.Sprint("SWAP", n), Pops: n + 1, Pushes: n + 1, Gas: 3}
	}
	for n := 0; n <= 4; n++ {
		out[byte(0xa0+n)] = api.Info{Name: fmt.Sprint("LOG", n), Pops: n + 2, Pushes: 0, Gas: 375 * (n + 1)}
	}
	return out
}()

// names are all opcodes that there are, by their names.
var names = func() map[string]byte {
	out := map[string]byte{}
	for op, x := range infos {
		out[x.Name] = op
	}
	return out
}()

var pushName = regexp.MustCompile(`\APUSH([1-9][0-9]?)\z`)

// behindOp is how many bytes stand behind an opcode.
func behindOp(op byte) int {
	x := pushName.FindStringSubmatch(infos[op].Name)
	if x == nil {
		return 0
	}
	n, _ := strconv.Atoi(x[1])
	return n
}

// step is an opcode of a code, where it is, and what of the bytes that stand behind it is there.
type step struct {
	place int
	op    byte
	bytes string
}

func steps(code string) []step {
	var out []step
	for rest := code; rest != ""; {
		x := step{place: len(code) - len(rest), op: rest[0]}
		rest = rest[1:]
		for range behindOp(x.op) {
			if rest != "" {
				x.bytes, rest = x.bytes+rest[:1], rest[1:]
			}
		}
		out = append(out, x)
	}
	return out
}

// mayJump is what Jumps promises.
func mayJump(code string) []int {
	var out []int
	for _, x := range steps(code) {
		if infos[x.op].Name == "JUMPDEST" {
			out = append(out, x.place)
		}
	}
	return out
}

// put is what Push promises.
func put(code string, pc, n int) api.Word {
	sum := new(big.Int)
	if n < 1 || n > 32 || pc < 0 || pc > len(code)-1 {
		return api.Word{}
	}
	for place := pc + 1; place <= pc+n; place++ {
		sum.Lsh(sum, 8)
		if place < len(code) {
			sum.Add(sum, big.NewInt(int64(code[place])))
		}
	}
	var out api.Word
	for part := range out {
		out[part] = new(big.Int).And(new(big.Int).Rsh(sum, uint(64*part)), new(big.Int).SetUint64(1<<64-1)).Uint64()
	}
	return out
}

// firstWord is an opcode's first word in Text.
func firstWord(op byte) string {
	if x, is := infos[op]; is {
		return x.Name
	}
	return fmt.Sprintf("0x%02x", op)
}

// line is an opcode's line in Text, but for its end.
func line(x step) string {
	if behindOp(x.op) == 0 {
		return firstWord(x.op)
	}
	return fmt.Sprintf("%s 0x%x", firstWord(x.op), x.bytes)
}

// written is what Text promises.
func written(code string) string {
	var out strings.Builder
	for _, x := range steps(code) {
		out.WriteString(line(x) + "\n")
	}
	return out.String()
}

// linesOf are a text's lines, without their ends.
func linesOf(text string) []string {
	if text == "" {
		return nil
	}
	return strings.Split(strings.TrimSuffix(text, "\n"), "\n")
}

var (
	twoDigits = regexp.MustCompile(`\A0x[0-9a-f]{2}\z`)
	allDigits = regexp.MustCompile(`\A 0x(?:[0-9a-f]{2})*\z`)
)

// opOf is the opcode of a first word, if it is one.
func opOf(word string) (byte, bool) {
	if op, is := names[word]; is {
		return op, true
	}
	if !twoDigits.MatchString(word) {
		return 0, false
	}
	n, _ := strconv.ParseUint(word[2:], 16, 8)
	_, is := infos[byte(n)]
	return byte(n), !is
}

// parsed is what Parse promises.
func parsed(text string) (string, api.Errno, int) {
	code := ""
	all := linesOf(text)
	for number, line := range all {
		end := strings.IndexByte(line+" ", ' ')
		op, is := opOf(line[:end])
		if !is {
			return "", api.ErrOp, number
		}
		tail, n := line[end:], behindOp(op)
		if n == 0 && tail != "" {
			return "", api.ErrText, number
		}
		code += string([]byte{op})
		if n == 0 {
			continue
		}
		many := (len(tail) - len(" 0x")) / 2
		if !allDigits.MatchString(tail) || many > n || many < n && number < len(all)-1 {
			return "", api.ErrText, number
		}
		var bytes []byte
		fmt.Sscanf(tail, " 0x%x", &bytes)
		code += string(bytes)
	}
	return code, api.OK, 0
}

func expectJumps(t *testing.T, code string) {
	t.Helper()
	if got, want := opcode.Jumps(code), mayJump(code); !slices.Equal(got, want) {
		t.Fatalf("Jumps(%x) is %v, not %v", code, got, want)
	}
}

func expectPush(t *testing.T, code string, pc, n int) {
	t.Helper()
	if got, want := opcode.Push(code, pc, n), put(code, pc, n); got != want {
		t.Fatalf("Push(%x, %d, %d) is %x, not %x", code, pc, n, got, want)
	}
}

// expectText holds Text against the chapter, and that Parse undoes it.
func expectText(t *testing.T, code string) {
	t.Helper()
	got := opcode.Text(code)
	if want := written(code); got != want {
		t.Fatalf("Text(%x) is %q, not %q", code, got, want)
	}
	if back, e, number := opcode.Parse(got); back != code || e != api.OK || number != 0 {
		t.Fatalf("Parse of Text(%x) is %x, %d, %d", code, back, e, number)
	}
}

func expectParse(t *testing.T, text string) api.Errno {
	t.Helper()
	code, e, number := opcode.Parse(text)
	if want, f, at := parsed(text); code != want || e != f || number != at {
		t.Fatalf("Parse(%q) is %x, %d, %d, not %x, %d, %d", text, code, e, number, want, f, at)
	}
	return e
}
