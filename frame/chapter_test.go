package frame_test

import (
	"fmt"
	"math/big"
	"slices"
	"testing"

	"railhead/api"
	"railhead/compute"
	"railhead/frame"
	"railhead/keccak"
	"railhead/opcode"
)

// What follows says what the chapter says, byte by byte, with numbers that have no end, and memory that is written into.

// listed are the opcodes that the second promise names, each from one to another.
func listed() [][2]byte {
	return [][2]byte{{0x00, 0x00}, {0x20, 0x20}, {0x35, 0x39}, {0x3d, 0x3e}, {0x51, 0x53}, {0x56, 0x5b}, {0x5f, 0x7f}, {0xf3, 0xf3}, {0xfd, 0xfe}}
}

// local is what Local promises.
func local(op byte) bool {
	for _, x := range listed() {
		if op >= x[0] && op <= x[1] {
			return true
		}
	}
	_, is := opcode.Info(op)
	return !is || compute.Is(op)
}

// right is what Right promises.
func right(f api.Frame) bool {
	switch {
	case len(f.Code) > 49152, len(f.Input) > 1048576, len(f.Ret) > 1048576, len(f.Out) > 1048576:
		return false
	case f.PC < 0, f.PC > 9007199254740992, f.Gas < 0, f.Gas > 2000000:
		return false
	case len(f.Stack) > 1024, len(f.Mem) > 1048576, len(f.Mem)%32 != 0:
		return false
	}
	switch f.Status {
	case 0, 1:
		return f.Errno == 0 && f.Out == ""
	case 2, 3:
		return f.Errno == 0
	case 4:
		return f.Errno != 0 && f.Out == ""
	}
	return false
}

// numberOf is a word's number.
func numberOf(w api.Word) *big.Int {
	n := new(big.Int)
	for place := 3; place >= 0; place-- {
		n.Lsh(n, 64)
		n.Add(n, new(big.Int).SetUint64(w[place]))
	}
	return n
}

// wordOf is the word of up to 32 bytes, the highest one first.
func wordOf(bytes []byte) api.Word {
	w := api.Word{}
	for _, b := range bytes {
		for place := 3; place > 0; place-- {
			w[place] = w[place]<<8 | w[place-1]>>56
		}
		w[0] = w[0]<<8 | uint64(b)
	}
	return w
}

func number(n int) *big.Int { return big.NewInt(int64(n)) }

func sum(a, b *big.Int) *big.Int { return new(big.Int).Add(a, b) }

func above(a, b *big.Int) bool { return a.Cmp(b) > 0 }

// words is how many words hold so many bytes.
func words(n *big.Int) *big.Int {
	up := sum(n, number(31))
	return up.Quo(up, number(32))
}

// memoryCost is what so many words of memory cost.
func memoryCost(n *big.Int) *big.Int {
	square := new(big.Int).Mul(n, n)
	square.Quo(square, number(512))
	return sum(square, new(big.Int).Mul(n, number(3)))
}

// more is what an opcode pays more than its least, but for memory; and the piece that it reaches.
func more(name string, a, b, c *big.Int) (cost, at, n *big.Int) {
	none := new(big.Int)
	times := func(price int, of *big.Int) *big.Int { return new(big.Int).Mul(number(price), of) }
	switch name {
	case "EXP":
		return times(50, number(len(b.Bytes()))), none, none
	case "KECCAK256":
		return times(6, words(b)), a, b
	case "CALLDATACOPY", "CODECOPY", "RETURNDATACOPY":
		return times(3, words(c)), a, c
	case "MLOAD", "MSTORE":
		return none, a, number(32)
	case "MSTORE8":
		return none, a, number(1)
	case "RETURN", "REVERT":
		return none, a, b
	}
	return none, none, none
}

// grown is what it costs to reach a piece of memory, and the memory then; false: it costs more than there is.
func grown(mem string, at, n *big.Int) (*big.Int, []byte, bool) {
	had := number(len(mem) / 32)
	if n.Sign() == 0 {
		return new(big.Int), []byte(mem), true
	}
	has := words(sum(at, n))
	if above(has, number(1048576/32)) {
		return nil, nil, false
	}
	if !above(has, had) {
		return new(big.Int), []byte(mem), true
	}
	out := make([]byte, 32*int(has.Int64()))
	copy(out, mem)
	cost := memoryCost(has)
	return cost.Sub(cost, memoryCost(had)), out, true
}

// byteAt is the byte of a text at a number's place, and 0 behind its end.
func byteAt(s string, place *big.Int) byte {
	if !above(number(len(s)), place) {
		return 0
	}
	return s[place.Int64()]
}

// piece are so many bytes of a text from a number's place on.
func piece(s string, from *big.Int, n int) []byte {
	out := make([]byte, n)
	for i := range out {
		out[i] = byteAt(s, sum(from, number(i)))
	}
	return out
}

// part is a piece of memory that was reached.
func part(mem []byte, at, n *big.Int) []byte {
	if n.Sign() == 0 {
		return nil
	}
	return mem[at.Int64() : at.Int64()+n.Int64()]
}

// mayJump tells whether at a number's place an opcode of a code stands, which is 5b.
func mayJump(code string, to *big.Int) bool {
	for place := 0; place < len(code); place++ {
		if to.IsInt64() && to.Int64() == int64(place) {
			return code[place] == 0x5b
		}
		if code[place] >= 0x60 && code[place] <= 0x7f {
			place += int(code[place]) - 0x5f
		}
	}
	return false
}

// stepped is what Step promises.
func stepped(f api.Frame) (api.Frame, api.Errno) {
	switch {
	case !right(f):
		return f, 1
	case f.Status != 0:
		return f, 50
	case f.PC >= len(f.Code):
		f.Status = 1
		return f, 0
	case !local(f.Code[f.PC]):
		return f, 51
	}
	g, e := went(f, f.Code[f.PC])
	if e != 0 {
		f.Status, f.Errno, f.Gas = 4, e, 0
		return f, 0
	}
	return g, 0
}

// went is a frame behind an opcode that is paid; or why it fails.
func went(f api.Frame, op byte) (api.Frame, api.Errno) {
	about, is := opcode.Info(op)
	rest := len(f.Stack) - about.Pops
	switch {
	case !is || op == 0xfe:
		return f, 42
	case rest < 0:
		return f, 40
	case rest+about.Pushes > 1024:
		return f, 41
	}
	var abc [3]api.Word
	var n [3]*big.Int
	for i := range abc {
		if i < about.Pops {
			abc[i] = f.Stack[len(f.Stack)-1-i]
		}
		n[i] = numberOf(abc[i])
	}
	cost, at, many := more(about.Name, n[0], n[1], n[2])
	forMemory, mem, is := grown(f.Mem, at, many)
	if !is {
		return f, 43
	}
	cost = sum(sum(cost, forMemory), number(about.Gas))
	if above(cost, number(f.Gas)) {
		return f, 43
	}
	g := f
	g.PC, g.Gas, g.Stack = f.PC+1, f.Gas-int(cost.Int64()), slices.Clone(f.Stack[:rest])
	e := done(&g, f, about.Name, mem, abc, n)
	return g, e
}

// done does what the table has of an opcode, in a frame that has paid. Memory is written into.
func done(g *api.Frame, f api.Frame, name string, mem []byte, abc [3]api.Word, n [3]*big.Int) api.Errno {
	push := func(bytes []byte) { g.Stack = append(g.Stack, wordOf(bytes)) }
	copied := func(s string) { copy(part(mem, n[0], n[2]), piece(s, n[1], int(n[2].Int64()))) }
	op := f.Code[f.PC]
	e := api.Errno(0)
	switch {
	case compute.Is(op):
		g.Stack, e = compute.Do(op, f.Stack)
	case name == "STOP":
		g.Status, g.PC = 1, f.PC
	case name == "KECCAK256":
		hash, _ := keccak.Sum(string(part(mem, n[0], n[1])))
		push([]byte(hash))
	case name == "CALLDATALOAD":
		push(piece(f.Input, n[0], 32))
	case name == "CALLDATASIZE":
		push(number(len(f.Input)).Bytes())
	case name == "CALLDATACOPY":
		copied(f.Input)
	case name == "CODESIZE":
		push(number(len(f.Code)).Bytes())
	case name == "CODECOPY":
		copied(f.Code)
	case name == "RETURNDATASIZE":
		push(number(len(f.Ret)).Bytes())
	case name == "RETURNDATACOPY":
		if above(sum(n[1], n[2]), number(len(f.Ret))) {
			return 45
		}
		copied(f.Ret)
	case name == "MLOAD":
		push(part(mem, n[0], number(32)))
	case name == "MSTORE":
		n[1].FillBytes(part(mem, n[0], number(32)))
	case name == "MSTORE8":
		part(mem, n[0], number(1))[0] = byte(abc[1][0])
	case name == "JUMP", name == "JUMPI" && n[1].Sign() != 0:
		if !mayJump(f.Code, n[0]) {
			return 44
		}
		g.PC = int(n[0].Int64())
	case name == "PC":
		push(number(f.PC).Bytes())
	case name == "MSIZE":
		push(number(len(f.Mem)).Bytes())
	case name == "GAS":
		push(number(g.Gas).Bytes())
	case op >= 0x5f && op <= 0x7f:
		g.PC = f.PC + 1 + int(op-0x5f)
		push(piece(f.Code, number(f.PC+1), int(op-0x5f)))
	case name == "RETURN", name == "REVERT":
		g.Status, g.PC = 2, f.PC
		if name == "REVERT" {
			g.Status = 3
		}
		g.Out = string(part(mem, n[0], n[1]))
	}
	g.Mem = string(mem)
	return e
}

// ran is what Run promises.
func ran(f api.Frame, most int) (api.Frame, int, api.Errno) {
	if !right(f) || most < 0 || most > 100000 {
		return f, 0, 1
	}
	many := 0
	for many < most {
		g, e := stepped(f)
		if e != 0 {
			break
		}
		f = g
		many++
	}
	return f, many, 0
}

// same tells whether two frames are: a list without elements may be nil or not.
func same(a, b api.Frame) bool {
	return slices.Equal(a.Stack, b.Stack) && a.PC == b.PC && a.Gas == b.Gas && a.Status == b.Status && a.Errno == b.Errno &&
		a.Code == b.Code && a.Input == b.Input && a.Mem == b.Mem && a.Ret == b.Ret && a.Out == b.Out
}

func short(s string) string { return fmt.Sprintf("%x (%d bytes)", s[:min(len(s), 70)], len(s)) }

// tell is as much of a frame as can be read.
func tell(f api.Frame) string {
	return fmt.Sprintf("code %s input %s PC %d stack %x (%d words) memory %s gas %d ret %s status %d errno %d out %s",
		short(f.Code), short(f.Input), f.PC, f.Stack[max(0, len(f.Stack)-4):], len(f.Stack), short(f.Mem), f.Gas, short(f.Ret), f.Status, f.Errno, short(f.Out))
}

// expect holds Step and Right of a frame against the chapter.
func expect(t *testing.T, f api.Frame) (api.Frame, api.Errno) {
	t.Helper()
	got, e := frame.Step(f)
	want, h := stepped(f)
	if !same(got, want) || e != h {
		t.Fatalf("Step of %s\nis  %s, %d,\nnot %s, %d", tell(f), tell(got), e, tell(want), h)
	}
	if is := frame.Right(f); is != right(f) {
		t.Fatalf("Right of %s is %v", tell(f), is)
	}
	return got, e
}

// expectRun holds Run against the chapter.
func expectRun(t *testing.T, f api.Frame, most int) (api.Frame, int) {
	t.Helper()
	got, many, e := frame.Run(f, most)
	want, n, h := ran(f, most)
	if !same(got, want) || many != n || e != h {
		t.Fatalf("Run of %s, %d\nis  %s, %d, %d,\nnot %s, %d, %d", tell(f), most, tell(got), many, e, tell(want), n, h)
	}
	return got, many
}
