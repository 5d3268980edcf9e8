package frame_test

import (
	"math"
	"slices"
	"strings"
	"sync"
	"testing"

	"railhead/api"
	"railhead/compute"
	"railhead/frame"
	"railhead/opcode"
	"railhead/word"
)

const top = 1 << 63

func of(l ...int) []api.Word {
	var out []api.Word
	for _, n := range l {
		out = append(out, word.Of(n))
	}
	return out
}

// next is the next one of mixed numbers, which are always the same.
func next(x *uint64) uint64 {
	*x ^= *x << 13
	*x ^= *x >> 7
	*x ^= *x << 17
	return *x
}

func mixed(x *uint64) api.Word { return api.Word{next(x), next(x), next(x), next(x)} }

// tall is a stack of so many words, of which no two are the same.
func tall(many int) []api.Word {
	var out []api.Word
	for i := range many {
		out = append(out, api.Word{uint64(i + 1), 0, uint64(i) << 50, ^uint64(i)})
	}
	return out
}

// text is a text of so many bytes, of which those next to one another are unlike.
func text(many int) string {
	out := make([]byte, many)
	for i := range out {
		out[i] = byte(i*i + 3*i/256 + 1)
	}
	return string(out)
}

// unlike is a text that is unlike that one at each byte.
func unlike(many int, by byte) string {
	out := []byte(text(many))
	for i := range out {
		out[i] += by
	}
	return string(out)
}

// sizes are words at which a limit of bytes, of numbers or of words is.
func sizes() []api.Word {
	out := of(0, 1, 2, 31, 32, 33, 63, 64, 65, 96, 97, 1000, 1<<20-32, 1<<20-31, 1<<20-1, 1<<20, 1<<20+1, 1<<53, 1<<62-1, 1<<62, -1, -31, -32, -33)
	return append(out, api.Word{top}, api.Word{top - 1}, api.Word{1<<64 - 1}, api.Word{0, 1}, api.Word{1, 1}, api.Word{64, 0, 1}, api.Word{3: 1}, api.Word{3: top})
}

// fewSizes are those at which most begins anew.
func fewSizes() []api.Word {
	return append(of(0, 1, 5, 31, 32, 33, 64, 70, 1<<20, -1, -32), api.Word{0, 1}, api.Word{32, 1})
}

// at is a frame at its one opcode, behind two bytes of code, with all that a frame may have.
func at(op byte, gas int, stack ...api.Word) api.Frame {
	return api.Frame{Code: "\x5b\x01" + string([]byte{op}) + "\x5b\x09\x61\x5b\x5b", Input: text(70), PC: 2, Stack: stack, Mem: unlike(64, 50), Gas: gas, Ret: unlike(40, 100)}
}

// U1

func TestRightAtEachLimit(t *testing.T) {
	good := at(0x5b, 5)
	for name, x := range map[string]struct {
		least, most int
		set         func(f *api.Frame, n int)
	}{
		"code":  {0, 49152, func(f *api.Frame, n int) { f.Code = text(n) }},
		"input": {0, 1 << 20, func(f *api.Frame, n int) { f.Input = text(n) }},
		"ret":   {0, 1 << 20, func(f *api.Frame, n int) { f.Ret = text(n) }},
		"out":   {0, 1 << 20, func(f *api.Frame, n int) { f.Status, f.Out = 2, text(n) }},
		"undo":  {0, 1 << 20, func(f *api.Frame, n int) { f.Status, f.Out = 3, text(n) }},
		"place": {0, 1 << 53, func(f *api.Frame, n int) { f.PC = n }},
		"gas":   {0, 2000000, func(f *api.Frame, n int) { f.Gas = n }},
		"stack": {0, 1024, func(f *api.Frame, n int) { f.Stack = make([]api.Word, n) }},
	} {
		for _, n := range []int{x.least, x.least + 1, x.most - 1, x.most} {
			f := good
			if x.set(&f, n); !frame.Right(f) {
				t.Errorf("%s of %d", name, n)
			}
			expect(t, f)
		}
		wrong := []int{x.most + 1, x.most + 32}
		if name == "place" || name == "gas" {
			wrong = append(wrong, x.least-1, -1<<40, math.MinInt, math.MaxInt, 1<<62, x.most+1<<53)
		}
		for _, n := range wrong {
			f := good
			if x.set(&f, n); frame.Right(f) {
				t.Errorf("%s of %d", name, n)
			}
			if _, e := expect(t, f); e != api.ErrArg {
				t.Errorf("%s of %d: %d", name, n, e)
			}
		}
	}
}

func TestRightOfMemory(t *testing.T) {
	for n := range 200 {
		f := at(0x5b, 5)
		f.Mem = text(n)
		if frame.Right(f) != (n%32 == 0) {
			t.Error(n)
		}
		expect(t, f)
	}
	for _, n := range []int{1<<20 - 32, 1 << 20, 1<<20 - 1, 1<<20 + 1, 1<<20 + 32, 1 << 21} {
		f := at(0x5b, 5)
		f.Mem = strings.Repeat("m", n)
		if frame.Right(f) != (n%32 == 0 && n <= 1<<20) {
			t.Error(n)
		}
		expect(t, f)
	}
}

func TestRightOfHowItEnded(t *testing.T) {
	many := 0
	outs := []string{"", "\x00", "told", text(1 << 20), text(1<<20 + 1)}
	for _, status := range []int{-1 << 40, -1, 0, 1, 2, 3, 4, 5, 6, 1 << 40, math.MinInt, math.MaxInt} {
		for _, e := range []api.Errno{0, 1, 42, 43, 50, 51, 200, -1, 1 << 40} {
			for _, out := range outs {
				f := at(0x5b, 5)
				f.Status, f.Errno, f.Out = status, e, out
				if frame.Right(f) {
					many++
				}
				expect(t, f)
			}
		}
	}
	// Two run or stopped, two times four told, and eight errors: but for these none may be.
	if many != 2+2*4+8 {
		t.Error(many)
	}
}

func TestBegin(t *testing.T) {
	for _, x := range []struct {
		code, input string
		gas         int
		e           api.Errno
	}{
		{"", "", 0, 0}, {"\x5b", "in", 7, 0}, {text(49152), text(1 << 20), 2000000, 0}, {"\x54", "", 1, 0},
		{text(49153), "", 0, 1}, {"", text(1<<20 + 1), 0, 1}, {"\x5b", "in", -1, 1}, {"\x5b", "in", 2000001, 1},
		{"", "", math.MinInt, 1}, {"", "", math.MaxInt, 1}, {text(60000), text(1 << 21), -5, 1},
	} {
		want := api.Frame{}
		if x.e == 0 {
			want = api.Frame{Code: x.code, Input: x.input, Gas: x.gas}
		}
		if f, e := frame.Begin(x.code, x.input, x.gas); !same(f, want) || e != x.e {
			t.Errorf("%d %d %d: %s, %d", len(x.code), len(x.input), x.gas, tell(f), e)
		}
	}
}

// U2

func TestLocalOfEachByte(t *testing.T) {
	many := 0
	for op := range 256 {
		if frame.Local(byte(op)) != local(byte(op)) {
			t.Errorf("Local(%02x) is %v", op, frame.Local(byte(op)))
		}
		if !frame.Local(byte(op)) {
			many++
			if _, is := opcode.Info(byte(op)); !is {
				t.Errorf("%02x is no opcode", op)
			}
		}
	}
	// 30 to 34, 3a to 3c, 3f, 40 to 48, 54, 55, a0 to a4, f0 to f2, f4, f5, fa, ff.
	if many != 5+3+1+9+2+5+3+2+1+1 {
		t.Error(many)
	}
}

// U3

func TestNoStep(t *testing.T) {
	for _, f := range []api.Frame{{PC: -1}, {Gas: -1, Status: 1}, {Status: 2, Errno: 1}, {Code: text(49153), Status: 1}, {Mem: "m", Code: "\x54"}} {
		if _, e := expect(t, f); e != api.ErrArg {
			t.Error(tell(f), e)
		}
	}
	for _, f := range []api.Frame{{Status: 1}, {Status: 2, Out: "told"}, {Status: 3}, {Status: 4, Errno: 43}, {Status: 1, Code: "\x54"}, {Status: 1, Code: "\x01", Gas: 9, Stack: tall(2)}} {
		if _, e := expect(t, f); e != api.ErrDone {
			t.Error(tell(f), e)
		}
	}
}

// At no byte it stops, with all that it has; and nothing is paid.
func TestNoByte(t *testing.T) {
	for _, code := range []string{"", "\x5b", "\x54", text(49152)} {
		for _, more := range []int{0, 1, 31, 32, 1 << 53} {
			f := at(0, 7, tall(3)...)
			f.Code, f.PC = code, min(len(code)+more, 1<<53)
			want := f
			want.Status = api.Stopped
			if got, e := expect(t, f); !same(got, want) || e != api.OK {
				t.Error(len(code), more, tell(got), e)
			}
		}
	}
}

// What asks for more is told ahead of what is too few, too many or too dear.
func TestMoreThanAFrameHas(t *testing.T) {
	for op := range 256 {
		if local(byte(op)) {
			continue
		}
		for _, many := range []int{0, 1, 2, 7, 1023, 1024} {
			for _, gas := range []int{0, 5, 2000000} {
				f := at(byte(op), gas, tall(many)...)
				if got, e := expect(t, f); e != api.ErrWorld || !same(got, f) {
					t.Errorf("%02x: %s, %d", op, tell(got), e)
				}
			}
		}
	}
}

func TestStepsThatAreKnown(t *testing.T) {
	noughts := strings.Repeat("\x00", 32)
	m, in, ret := unlike(64, 50), text(70), unlike(40, 100)
	// The last word is on top.
	for i, x := range []struct {
		op      byte
		s       []api.Word
		cost    int
		want    []api.Word
		mem     string
		pc      int
		status  int
		out     string
		failing api.Errno
	}{
		{op: 0x01, s: of(9, 5, 3), cost: 3, want: of(9, 8), mem: m, pc: 3},
		{op: 0x0a, s: of(0, 2), cost: 10, want: of(1), mem: m, pc: 3},
		{op: 0x0a, s: of(256, 1), cost: 110, want: of(1), mem: m, pc: 3},
		{op: 0x0a, s: of(-1, 1), cost: 1610, want: of(1), mem: m, pc: 3},
		{op: 0x50, s: of(9, 5), cost: 2, want: of(9), mem: m, pc: 3},
		{op: 0x80, s: of(9), cost: 3, want: of(9, 9), mem: m, pc: 3},
		{op: 0x90, s: of(9, 5), cost: 3, want: of(5, 9), mem: m, pc: 3},
		{op: 0x00, s: of(9), want: of(9), mem: m, pc: 2, status: 1},
		{op: 0x35, s: of(69), cost: 3, want: []api.Word{word.FromBytes(in[69:] + noughts[1:])}, mem: m, pc: 3},
		{op: 0x35, s: of(70), cost: 3, want: of(0), mem: m, pc: 3},
		{op: 0x36, cost: 2, want: of(70), mem: m, pc: 3},
		{op: 0x37, s: of(3, 1, 2), cost: 6, mem: m[:2] + in[1:4] + m[5:], pc: 3},
		{op: 0x37, s: of(33, 69, 64), cost: 15, mem: m + in[69:] + noughts + noughts[1:], pc: 3},
		{op: 0x38, cost: 2, want: of(8), mem: m, pc: 3},
		{op: 0x39, s: of(3, 6, 61), cost: 6, mem: m[:61] + "\x5b\x5b\x00", pc: 3},
		{op: 0x3d, cost: 2, want: of(40), mem: m, pc: 3},
		{op: 0x3e, s: of(40, 0, 5), cost: 9, mem: m[:5] + ret + m[45:], pc: 3},
		{op: 0x3e, s: of(0, 40, -1), cost: 3, mem: m, pc: 3},
		{op: 0x3e, s: of(40, 1, 5), cost: 9, failing: api.ErrRange},
		{op: 0x3e, s: of(0, 41, 5), cost: 3, failing: api.ErrRange},
		{op: 0x3e, s: of(1, -1, 5), cost: 6, failing: api.ErrRange},
		{op: 0x51, s: of(7), cost: 3, want: []api.Word{word.FromBytes(m[7:39])}, mem: m, pc: 3},
		{op: 0x51, s: of(33), cost: 6, want: []api.Word{word.FromBytes(m[33:] + "\x00")}, mem: m + noughts, pc: 3},
		{op: 0x52, s: of(5, 3), cost: 3, mem: m[:3] + noughts[1:] + "\x05" + m[35:], pc: 3},
		{op: 0x52, s: of(5, 96), cost: 9, mem: m + noughts + noughts[1:] + "\x05", pc: 3},
		{op: 0x53, s: of(0x105, 63), cost: 3, mem: m[:63] + "\x05", pc: 3},
		{op: 0x53, s: of(0x105, 64), cost: 6, mem: m + "\x05" + noughts[1:], pc: 3},
		{op: 0x56, s: of(3), cost: 8, mem: m, pc: 3},
		{op: 0x56, s: of(0), cost: 8, mem: m, pc: 0},
		{op: 0x56, s: of(6), cost: 8, failing: api.ErrJump},
		{op: 0x56, s: of(2), cost: 8, failing: api.ErrJump},
		{op: 0x56, s: of(8), cost: 8, failing: api.ErrJump},
		{op: 0x56, s: of(-1), cost: 8, failing: api.ErrJump},
		{op: 0x56, s: []api.Word{{3, 1}}, cost: 8, failing: api.ErrJump},
		{op: 0x56, s: []api.Word{{3: 1}}, cost: 8, failing: api.ErrJump},
		{op: 0x57, s: of(1, 0), cost: 10, mem: m, pc: 0},
		{op: 0x57, s: []api.Word{{3: 1}, {}}, cost: 10, mem: m, pc: 0},
		{op: 0x57, s: of(0, 0), cost: 10, mem: m, pc: 3},
		{op: 0x57, s: of(0, 6), cost: 10, mem: m, pc: 3},
		{op: 0x57, s: of(1, 6), cost: 10, failing: api.ErrJump},
		{op: 0x58, cost: 2, want: of(2), mem: m, pc: 3},
		{op: 0x59, cost: 2, want: of(64), mem: m, pc: 3},
		{op: 0x5b, s: of(9), cost: 1, want: of(9), mem: m, pc: 3},
		{op: 0x5f, s: of(9), cost: 2, want: of(9, 0), mem: m, pc: 3},
		{op: 0x60, cost: 3, want: of(0x5b), mem: m, pc: 4},
		{op: 0x64, cost: 3, want: of(0x5b09615b5b), mem: m, pc: 8},
		{op: 0x65, cost: 3, want: of(0x5b09615b5b00), mem: m, pc: 9},
		{op: 0x7f, cost: 3, want: []api.Word{word.FromBytes("\x5b\x09\x61\x5b\x5b" + noughts[5:])}, mem: m, pc: 35},
		{op: 0xf3, s: of(9, 3, 1), want: of(9), mem: m, pc: 2, status: 2, out: m[1:4]},
		{op: 0xf3, s: of(2, 63), cost: 3, mem: m + noughts, pc: 2, status: 2, out: m[63:] + "\x00"},
		{op: 0xf3, s: of(0, -1), mem: m, pc: 2, status: 2},
		{op: 0xfd, s: of(3, 1), mem: m, pc: 2, status: 3, out: m[1:4]},
		{op: 0xfe, s: of(9), failing: api.ErrOp},
		{op: 0x0c, s: of(9), failing: api.ErrOp},
	} {
		for _, spare := range []int{-1, 0, 1, 1000} {
			if x.cost+spare < 0 {
				continue
			}
			f := at(x.op, x.cost+spare, x.s...)
			want := f
			want.Stack, want.Mem, want.PC, want.Gas, want.Status, want.Out = x.want, x.mem, x.pc, spare, x.status, x.out
			if e := x.failing; e != 0 || spare < 0 {
				want = f
				want.Status, want.Errno, want.Gas = 4, e, 0
				if spare < 0 {
					want.Errno = 43
				}
			}
			if got, e := expect(t, f); !same(got, want) || e != api.OK {
				t.Errorf("%d: %02x with %d more than its cost\nis  %s, %d,\nnot %s", i, x.op, spare, tell(got), e, tell(want))
			}
		}
	}
}

// GAS tells what is left when it is paid.
func TestGasTellsWhatIsLeft(t *testing.T) {
	for _, gas := range []int{2, 3, 1000, 2000000} {
		if f, _ := expect(t, at(0x5a, gas)); !slices.Equal(f.Stack, of(gas-2)) || f.Gas != gas-2 {
			t.Error(gas, tell(f))
		}
	}
}

func TestEachByteOnStacksOfAllSizes(t *testing.T) {
	for op := range 256 {
		for many := range 20 {
			for _, gas := range []int{0, 2, 3, 9, 2000000} {
				expect(t, at(byte(op), gas, tall(many)...))
				expect(t, at(byte(op), gas, make([]api.Word, many)...))
			}
		}
		for _, many := range []int{255, 256, 1007, 1008, 1023, 1024, 1025} {
			expect(t, at(byte(op), 0, tall(many)...))
			expect(t, at(byte(op), 2000000, make([]api.Word, many)...))
		}
	}
}

// Too few on the stack is told ahead of too many, and these ahead of too little gas, and that ahead of what is told of jumps and ranges.
func TestWhichErrorIsFirst(t *testing.T) {
	for _, x := range []struct {
		f api.Frame
		e api.Errno
	}{
		{at(0xfe, 0), 42},
		{at(0xfe, 0, tall(1024)...), 42},
		{at(0xef, 0, tall(1024)...), 42},
		{at(0x8f, 0, tall(15)...), 40},
		{at(0x8f, 0, tall(16)...), 43},
		{at(0x8f, 0, tall(1024)...), 41},
		{at(0x5f, 0, tall(1024)...), 41},
		{at(0x5f, 0, tall(1023)...), 43},
		{at(0x56, 7), 40},
		{at(0x56, 7, of(1)...), 43},
		{at(0x56, 8, of(1)...), 44},
		{at(0x57, 9, of(1, 1)...), 43},
		{at(0x57, 10, of(1, 1)...), 44},
		{at(0x3e, 100, of(5, 40)...), 40},
		{at(0x3e, 5, of(5, 40, 0)...), 43},
		{at(0x3e, 6, of(5, 40, 0)...), 45},
		{at(0x3e, 8, of(5, 40, 64)...), 43},
		{at(0x3e, 9, of(5, 40, 64)...), 45},
		{at(0x3e, 2000000, of(-1, 40, 64)...), 43},
		{at(0x3e, 2, of(0, 41, -1)...), 43},
		{at(0x3e, 3, of(0, 41, -1)...), 45},
	} {
		want := x.f
		want.Status, want.Errno, want.Gas = 4, x.e, 0
		if got, e := expect(t, x.f); !same(got, want) || e != api.OK {
			t.Errorf("%s: %s, %d, not %d", tell(x.f), tell(got), e, x.e)
		}
	}
}

// worded are the local opcodes that take words, but for those that work on the stack alone: how many they take.
func worded() map[byte]int {
	return map[byte]int{0x20: 2, 0x35: 1, 0x37: 3, 0x39: 3, 0x3e: 3, 0x51: 1, 0x52: 2, 0x53: 2, 0x56: 1, 0x57: 2, 0xf3: 2, 0xfd: 2}
}

func TestEachOpcodeOfSizes(t *testing.T) {
	for op, pops := range worded() {
		for _, a := range sizes() {
			for _, b := range sizes() {
				switch pops {
				case 1:
					expect(t, at(op, 2000000, b, a))
				case 2:
					expect(t, at(op, 2000000, a, b, a))
				case 3:
					for _, c := range fewSizes() {
						expect(t, at(op, 300000, c, b, a))
						expect(t, at(op, 300000, b, c, a))
						expect(t, at(op, 300000, b, a, c))
					}
				}
			}
		}
	}
}

// expectAtItsCost holds Step against the chapter, where the gas is just enough, one less, and one more.
func expectAtItsCost(t *testing.T, f api.Frame) {
	t.Helper()
	f.Gas = 2000000
	g, _ := expect(t, f)
	if g.Status == api.Failed {
		return
	}
	cost := f.Gas - g.Gas
	for _, gas := range []int{cost - 1, cost, cost + 1} {
		if f.Gas = gas; gas < 0 || gas > 2000000 {
			continue
		}
		got, _ := expect(t, f)
		if short := got.Status == api.Failed; short != (gas < cost) || short && got.Errno != api.ErrGas {
			t.Fatalf("%s: %s", tell(f), tell(got))
		}
	}
}

func TestEachOpcodeAtItsCost(t *testing.T) {
	for op := range 256 {
		if local(byte(op)) {
			expectAtItsCost(t, at(byte(op), 0, tall(40)...))
			expectAtItsCost(t, at(byte(op), 0, make([]api.Word, 40)...))
		}
	}
	for op, pops := range worded() {
		for _, a := range fewSizes() {
			for _, b := range fewSizes() {
				if pops < 3 {
					expectAtItsCost(t, at(op, 0, b, a))
					continue
				}
				for _, c := range fewSizes() {
					expectAtItsCost(t, at(op, 0, c, b, a))
				}
			}
		}
	}
	for bytes := range 33 {
		expectAtItsCost(t, at(0x0a, 0, word.FromBytes(strings.Repeat("\x01", bytes)), word.Of(3)))
		expectAtItsCost(t, at(0x0a, 0, word.FromBytes("\x01"+strings.Repeat("\x00", max(0, bytes-1))), word.Of(3)))
	}
}

// Memory grows as far as its gas goes, from whatever it is.
func TestMemoryThatGrows(t *testing.T) {
	for _, had := range []int{0, 1, 2, 21, 22, 23, 700, 724, 20000, 32767, 32768} {
		for _, at := range []int{0, 1, 31, 32, 33, 700, 23168, 23169, 600000, 990000, 999999, 1<<20 - 64, 1<<20 - 33, 1<<20 - 32, 1<<20 - 31, 1<<20 - 1, 1 << 20} {
			f := api.Frame{Mem: strings.Repeat("m", 32*had)}
			for _, op := range []string{"\x51", "\x52", "\x53", "\xf3"} {
				f.Code, f.Stack = op, of(1, at)
				expectAtItsCost(t, f)
			}
		}
	}
}

// Where memory is as great as it may be, one more word costs more than there is, though the sum would not be great.
func TestMemoryThatIsAsGreatAsItMayBe(t *testing.T) {
	full := api.Frame{Mem: strings.Repeat("m", 1<<20), Input: text(1 << 20), Ret: text(1 << 20), Gas: 2000000}
	for _, x := range []struct {
		op byte
		s  []api.Word
		e  api.Errno
	}{
		{0x51, of(1<<20 - 32), 0},
		{0x51, of(1<<20 - 31), 43},
		{0x52, of(5, 1<<20-32), 0},
		{0x52, of(5, 1<<20-31), 43},
		{0x53, of(5, 1<<20-1), 0},
		{0x53, of(5, 1<<20), 43},
		{0x20, of(1<<20, 0), 0},
		{0x20, of(1<<20, 1), 43},
		{0x20, of(1<<20+1, 0), 43},
		{0x37, of(1<<20, 0, 0), 0},
		{0x37, of(1<<20, 5, 1), 43},
		{0x39, of(1<<20, -1, 0), 0},
		{0x3e, of(1<<20, 0, 0), 0},
		{0x3e, of(1<<20, 1, 0), 45},
		{0xf3, of(1<<20, 0), 0},
		{0xfd, of(1<<20, 0), 0},
		{0xf3, of(1<<20, 1), 43},
		{0xfd, of(1, 1<<20), 43},
		{0xf3, of(0, 1<<20+5), 0},
	} {
		f := full
		f.Code, f.Stack = string([]byte{x.op}), x.s
		if got, e := expect(t, f); got.Errno != x.e || e != api.OK {
			t.Errorf("%02x of %x: %s, %d", x.op, x.s, tell(got), e)
		}
	}
}

// One may jump to each place at which 5b stands that is not pushed, and nowhere else.
func TestJumps(t *testing.T) {
	for _, code := range []string{
		"\x5b", "\x5b\x5b", "\x60\x5b\x5b", "\x61\x5b\x5b\x5b", "\x5f\x5b\x7f\x5b", "\x00\x5b\xfe\x5b\x0c\x5b", "\x60\x60\x5b\x60",
		"\x7f" + strings.Repeat("\x5b", 33), strings.Repeat("\x60\x5b\x5b", 20), strings.Repeat("\x5b", 300),
	} {
		for _, op := range []string{"\x56", "\x57"} {
			whole := code + op
			last := strings.LastIndexByte(whole, op[0])
			for to := -2; to < len(whole)+2; to++ {
				for _, w := range []api.Word{word.Of(to), {uint64(to), 1}, {uint64(to), 0, 1}, {uint64(to), 0, 0, 1}, {uint64(to) + top}} {
					expect(t, api.Frame{Code: whole, PC: last, Gas: 20, Stack: append(of(1), w)})
				}
			}
		}
	}
	long := strings.Repeat("\x60\x5b\x5b", 16384)
	for _, to := range []int{0, 1, 2, 49148, 49149, 49150, 49151, 49152, 49153} {
		for pc := range 2 {
			expect(t, api.Frame{Code: long[:49151-pc] + "\x56"[:1-pc] + "\x57", PC: 49150, Gas: 20, Stack: of(1, to, to)})
		}
	}
}

func TestEachPush(t *testing.T) {
	code := text(80)
	for n := range 33 {
		for behind := range 40 {
			f := api.Frame{Code: "\x00" + string([]byte{byte(0x5f + n)}) + code[:behind], PC: 1, Gas: 3}
			if got, _ := expect(t, f); got.PC != 2+n || len(got.Stack) != 1 {
				t.Error(n, behind, tell(got))
			}
		}
	}
}

// A piece of memory may be copied from a code, an input or what was told, wherever they are and end.
func TestPiecesThatAreCopied(t *testing.T) {
	for _, many := range []int{0, 1, 5, 31, 32, 33, 64} {
		for _, op := range []byte{0x37, 0x39, 0x3e} {
			for from := range many + 3 {
				for _, n := range []int{0, 1, 2, 31, 32, 33, max(0, many-from), max(0, many-from+1)} {
					for _, to := range []int{0, 1, 31, 33} {
						f := api.Frame{Code: string([]byte{op}) + unlike(many, 50), Input: text(many), Ret: unlike(many, 100), Mem: unlike(32, 150), Gas: 500, Stack: of(n, from, to)}
						expect(t, f)
					}
				}
			}
		}
	}
}

// U4

// some are a code's bytes, mostly such as do something, of small numbers.
func some(x *uint64, many int) string {
	var out []byte
	for len(out) < many {
		switch next(x) % 8 {
		case 0, 1, 2:
			out = append(out, 0x60, byte(next(x)%80))
		case 3:
			out = append(out, byte(0x80+next(x)%4), byte(0x90+next(x)%3))
		case 4:
			out = append(out, 0x5b, byte(next(x)%0x1e))
		case 5:
			out = append(out, 0x60, byte(next(x)%40), 0x60, byte(next(x)%40), byte(0x35+next(x)%5))
		case 6:
			out = append(out, []byte{0x20, 0x36, 0x38, 0x3d, 0x51, 0x52, 0x53, 0x56, 0x57, 0x58, 0x59, 0x5a, 0x5b, 0x5f, 0xf3, 0xfd}[next(x)%16])
		case 7:
			if next(x)%4 == 0 {
				out = append(out, byte(next(x)))
			}
		}
	}
	return string(out)
}

func TestRunsOfMixedCodes(t *testing.T) {
	x := uint64(88172645463325252)
	told, ends := map[api.Errno]int{}, map[int]int{}
	for range 3000 {
		f, e := frame.Begin(some(&x, int(next(&x)%120)), text(int(next(&x)%50)), int(next(&x)%3000))
		if e != api.OK {
			t.Fatal(e)
		}
		f.Ret, f.Mem = unlike(int(next(&x)%40), 100), text(32*int(next(&x)%4))
		for range next(&x) % 8 {
			f.Stack = append(f.Stack, word.Of(int(next(&x)%70)))
		}
		end, many := expectRun(t, f, 2500)
		told[end.Errno]++
		ends[end.Status]++
		for range many {
			f, _ = expect(t, f)
		}
		if !same(f, end) {
			t.Fatal(tell(f), tell(end))
		}
	}
	for _, e := range []api.Errno{40, 42, 43, 44} {
		if told[e] < 20 {
			t.Errorf("the error %d was told %d times", e, told[e])
		}
	}
	for status := range 5 {
		if ends[status] < 20 {
			t.Errorf("%d was the end %d times", status, ends[status])
		}
	}
}

func TestRunsOfAnyBytes(t *testing.T) {
	x := uint64(2463534242)
	for range 3000 {
		code := make([]byte, next(&x)%60)
		for i := range code {
			code[i] = byte(next(&x))
		}
		f := api.Frame{Code: string(code), Input: text(9), Gas: int(next(&x) % 2000), Stack: tall(int(next(&x) % 40)), PC: int(next(&x) % 4)}
		for range next(&x) % 5 {
			f.Stack = append(f.Stack, mixed(&x))
		}
		expectRun(t, f, 300)
	}
}

// loop is a code that counts from the word on its stack down to 0, and then does what is behind it.
func loop(behind string) string { return "\x5b\x60\x01\x90\x03\x80\x5f\x57" + behind }

func TestRunInParts(t *testing.T) {
	for _, behind := range []string{"", "\x00", "\x54", "\xfe", "\x5f\x5f\xf3", "\x5f\x5f\xfd", "\x56"} {
		f := api.Frame{Code: loop(behind), Gas: 2000, Stack: of(9)}
		whole, n := expectRun(t, f, 100000)
		if n < 9*7 {
			t.Fatal(n)
		}
		for most := range n + 3 {
			part, k := expectRun(t, f, most)
			if k != min(most, n) {
				t.Error(most, k)
			}
			rest, more := expectRun(t, part, 100000)
			if !same(rest, whole) || k+more != n {
				t.Error(most, k, more, tell(rest))
			}
		}
	}
}

func TestHowManySteps(t *testing.T) {
	f := api.Frame{Code: "\x5b\x5f\x56", Gas: 2000000}
	for _, most := range []int{0, 1, 2, 99999, 100000} {
		if g, n, e := frame.Run(f, most); n != most || e != api.OK || g.PC != most%3 || g.Status != api.Running {
			t.Error(most, n, e, tell(g))
		}
	}
	for _, most := range []int{-1, 100001, math.MinInt, math.MaxInt, -1 << 40, 1 << 32, 1 << 62} {
		for _, f := range []api.Frame{f, {}, {Status: 1}, {PC: -1}, at(0x54, 5, tall(3)...)} {
			if g, n, e := frame.Run(f, most); n != 0 || e != api.ErrArg || !same(g, f) {
				t.Error(most, n, e, tell(g))
			}
		}
	}
	for _, most := range []int{0, 1, 100000} {
		for _, f := range []api.Frame{{PC: -1}, {Mem: "m"}, {Status: 4}, {Code: "\x5b", Gas: 2000001}, {Stack: tall(1025)}} {
			if g, n, e := frame.Run(f, most); n != 0 || e != api.ErrArg || !same(g, f) {
				t.Error(most, n, e, tell(g))
			}
		}
		for _, f := range []api.Frame{{Status: 1}, {Status: 2, Out: "told"}, {Status: 3, Gas: 5}, {Status: 4, Errno: 44}, at(0x54, 5, tall(3)...), at(0xf1, 0)} {
			if g, n, e := frame.Run(f, most); n != 0 || e != api.OK || !same(g, f) {
				t.Error(most, n, e, tell(g))
			}
		}
	}
}

// Jumps are those of the code that runs, whatever ran ahead of it.
func TestRunsOfUnlikeCodes(t *testing.T) {
	for i, code := range []string{"\x60\x04\x56\xfe\x5b", "\x60\x05\x56\xfe\x00\x5b", "\x60\x04\x56\x60\x5b", "\x60\x04\x56\xfe\x5b\x60\x08\x56\x5b"} {
		end, _ := expectRun(t, api.Frame{Code: code, Gas: 100}, 50)
		if want := []int{1, 1, 4, 1}[i]; end.Status != want {
			t.Error(i, tell(end))
		}
	}
}

func TestTheChaptersExample(t *testing.T) {
	f, e := frame.Begin("\x60\x05\x60\x03\x03\x00", "", 9)
	g, n, h := frame.Run(f, 100)
	if e != api.OK || h != api.OK || n != 4 || g.Gas != 0 || g.Status != api.Stopped || !slices.Equal(g.Stack, of(-2)) {
		t.Error(e, h, n, tell(g))
	}
}

// U5

// Each Step that goes leaves less gas, or is the last one; all is within its limits; and there are no more than Gas and 1.
func TestEachCodeEnds(t *testing.T) {
	x := uint64(7046029254386353131)
	codes := []string{"", "\x5b\x5f\x56", "\x5b\x5f\x51\x50\x59\x51\x50\x5f\x56", "\x5b\x5f\x80\x5f\x56", loop("\x00"), strings.Repeat("\x5b", 400), "\x00", "\x5f\x5f\xf3", "\x5f\x5f\xfd", "\xfe"}
	for range 500 {
		codes = append(codes, some(&x, 90))
	}
	for _, code := range codes {
		for _, gas := range []int{0, 1, 7, 300, 1500} {
			f, _ := frame.Begin(code, "input", gas)
			steps := 0
			for {
				g, e := frame.Step(f)
				if e != api.OK {
					break
				}
				steps++
				if !frame.Right(g) || g.Gas >= f.Gas && g.Status == api.Running && f.PC < len(code) {
					t.Fatal(tell(f), tell(g))
				}
				f = g
			}
			if steps > gas+1 {
				t.Errorf("%x: %d steps of %d gas", code, steps, gas)
			}
			if f.Status == api.Running && local(f.Code[f.PC]) {
				t.Error(tell(f))
			}
		}
	}
}

// With more gas the same is done, but for what GAS tells, and where it did not fail with ErrGas.
func TestMoreGas(t *testing.T) {
	x := uint64(362436069)
	short := 0
	for range 1500 {
		code := strings.ReplaceAll(some(&x, 90), "\x5a", "\x5b")
		gas, spare := int(next(&x)%700), int(next(&x)%5000)
		f, _ := frame.Begin(code, "input", gas)
		g, _ := frame.Begin(code, "input", gas+spare)
		end, many, _ := frame.Run(f, 1000)
		if end.Errno == api.ErrGas {
			short++
			end, many, _ = frame.Run(f, many-1)
		}
		other, n, _ := frame.Run(g, many)
		if end.Status != api.Failed {
			end.Gas += spare
		}
		if !same(other, end) || n != many {
			t.Fatal(tell(end), many, tell(other), n)
		}
	}
	if short < 50 {
		t.Error(short)
	}
}

// R3, R4

// frames are of all kinds: such as go, fail, are done, ask for more, and may not be.
func frames() []api.Frame {
	var out []api.Frame
	for op := range 256 {
		for _, gas := range []int{1, 2000} {
			out = append(out, at(byte(op), gas, append(tall(20), of(0, 3, 0)...)...))
		}
	}
	more := at(0x5b, 5, tall(4)...)
	for _, change := range []func(f *api.Frame){
		func(f *api.Frame) { f.Status = 1 }, func(f *api.Frame) { f.Status, f.Errno = 4, 43 }, func(f *api.Frame) { f.Status = 9 },
		func(f *api.Frame) { f.PC = 1000 }, func(f *api.Frame) { f.Gas = -1 }, func(f *api.Frame) { f.Stack = tall(1025) }, func(f *api.Frame) { f.Stack = nil },
	} {
		f := more
		change(&f)
		out = append(out, f)
	}
	return out
}

// answers are all frames that the calls tell of one.
func answers(f api.Frame) []api.Frame {
	one, _ := frame.Step(f)
	out := []api.Frame{one}
	for _, most := range []int{-1, 0, 1, 2, 50} {
		g, _, _ := frame.Run(f, most)
		out = append(out, g)
	}
	return out
}

// scribble writes into all that there is of a list, and behind it.
func scribble(l []api.Word) {
	l = l[:cap(l)]
	for i := range l {
		l[i] = word.Of(-7777777)
	}
}

func copies(l []api.Frame) []api.Frame {
	out := slices.Clone(l)
	for i := range out {
		out[i].Stack = slices.Clone(out[i].Stack)
	}
	return out
}

func TestAnswersAreNewMemory(t *testing.T) {
	for _, f := range frames() {
		// What stands behind the stack's length is another's, too.
		whole := append(slices.Clone(f.Stack), tall(9)...)
		was := slices.Clone(whole)
		f.Stack = whole[:len(f.Stack)]
		told := answers(f)
		if !slices.Equal(whole, was) {
			t.Fatal(tell(f), "what was handed in is changed")
		}
		wereTold := copies(told)
		for i := range told {
			scribble(told[i].Stack)
			if !slices.Equal(whole, was) {
				t.Fatal(tell(f), i, "what was handed in is changed by its answer")
			}
			if !slices.EqualFunc(told[i+1:], wereTold[i+1:], same) {
				t.Fatal(tell(f), i, "another answer is changed")
			}
		}
		told = answers(f)
		scribble(whole)
		if !slices.EqualFunc(told, wereTold, same) {
			t.Fatal(tell(f), "what was handed in was kept, or the same is not told of the same")
		}
	}
}

func TestTheSameAtOnce(t *testing.T) {
	f := api.Frame{Code: loop("\x5f\x52\x59\x5f\x20\x5f\x5f\xf3"), Gas: 3000, Stack: of(40)}
	want, n := expectRun(t, f, 1000)
	var group sync.WaitGroup
	for range 8 {
		group.Go(func() {
			if g, k, e := frame.Run(f, 1000); !same(g, want) || k != n || e != api.OK {
				t.Error(tell(g), k, e)
			}
		})
	}
	group.Wait()
}

// What is listed by the second promise is no other than what chapter 16 has, or the table of the third.
func TestLocalAndStepAgree(t *testing.T) {
	for op := range 256 {
		_, e := frame.Step(at(byte(op), 2000, append(tall(20), of(0, 0, 3)...)...))
		if (e == api.ErrWorld) == frame.Local(byte(op)) || compute.Is(byte(op)) && e != api.OK {
			t.Errorf("%02x: %d", op, e)
		}
	}
}
