package opcode_test

import (
	"fmt"
	"math"
	"slices"
	"strings"
	"testing"

	"railhead/api"
	"railhead/opcode"
)

// next is the next one of mixed numbers, which are always the same.
func next(x *uint64) int {
	*x ^= *x >> 12
	*x ^= *x << 25
	*x ^= *x >> 27
	return int(*x * 2685821657736338717 >> 33)
}

// mixed is so many mixed bytes: every second one is an opcode that something hangs on.
func mixed(x *uint64, many int) string {
	const some = "\x00\x5a\x5b\x5b\x5b\x5c\x5e\x5f\x60\x61\x62\x63\x6f\x70\x7e\x7f\x80"
	out := make([]byte, many)
	for i := range out {
		out[i] = byte(next(x))
		if next(x)%2 == 0 {
			out[i] = some[next(x)%len(some)]
		}
	}
	return string(out)
}

// short tells all texts of these bytes that are at most so long.
func short(letters string, most int, tell func(string)) {
	tell("")
	if most == 0 {
		return
	}
	for _, b := range []byte(letters) {
		short(letters, most-1, func(rest string) { tell(string([]byte{b}) + rest) })
	}
}

// greatNumbers are those at which something might begin anew, and those about them.
func greatNumbers() []int {
	out := []int{math.MinInt, math.MinInt + 1, math.MinInt + 32, math.MaxInt, math.MaxInt - 1, math.MaxInt - 31, math.MaxInt - 32, math.MaxInt - 33}
	for _, bits := range []int{8, 16, 31, 32, 60, 62} {
		for more := -1; more <= 1; more++ {
			out = append(out, 1<<bits+more, -(1<<bits + more))
		}
	}
	return out
}

// O1

func TestInfoOfEachByte(t *testing.T) {
	if len(infos) != 144 || len(names) != 144 {
		t.Fatal(len(infos), len(names))
	}
	for n := range 256 {
		want, there := infos[byte(n)]
		if got, is := opcode.Info(byte(n)); got != want || is != there {
			t.Errorf("Info(%02x) is %v, %v, not %v, %v", n, got, is, want, there)
		}
	}
}

func TestInfosThatAreKnown(t *testing.T) {
	for op, want := range map[byte]api.Info{
		0x00: {Name: "STOP"},
		0x0a: {Name: "EXP", Pops: 2, Pushes: 1, Gas: 10},
		0x5b: {Name: "JUMPDEST", Gas: 1},
		0x5f: {Name: "PUSH0", Pushes: 1, Gas: 2},
		0x60: {Name: "PUSH1", Pushes: 1, Gas: 3},
		0x6f: {Name: "PUSH16", Pushes: 1, Gas: 3},
		0x70: {Name: "PUSH17", Pushes: 1, Gas: 3},
		0x7f: {Name: "PUSH32", Pushes: 1, Gas: 3},
		0x80: {Name: "DUP1", Pops: 1, Pushes: 2, Gas: 3},
		0x8f: {Name: "DUP16", Pops: 16, Pushes: 17, Gas: 3},
		0x90: {Name: "SWAP1", Pops: 2, Pushes: 2, Gas: 3},
		0x9f: {Name: "SWAP16", Pops: 17, Pushes: 17, Gas: 3},
		0xa0: {Name: "LOG0", Pops: 2, Gas: 375},
		0xa4: {Name: "LOG4", Pops: 6, Gas: 1875},
		0xf5: {Name: "CREATE2", Pops: 4, Pushes: 1, Gas: 32000},
		0xfe: {Name: "INVALID"},
		0xff: {Name: "SELFDESTRUCT", Pops: 1, Gas: 5000},
	} {
		if got, is := opcode.Info(op); got != want || !is {
			t.Errorf("Info(%02x) is %v, %v", op, got, is)
		}
	}
}

func TestOpcodesThatThereAreNot(t *testing.T) {
	for _, op := range []byte{0x0c, 0x0f, 0x1e, 0x1f, 0x21, 0x2f, 0x49, 0x4f, 0x5c, 0x5d, 0x5e, 0xa5, 0xaf, 0xb0, 0xc0, 0xd5, 0xef, 0xf6, 0xf9, 0xfb, 0xfc} {
		if got, is := opcode.Info(op); is || got != (api.Info{}) {
			t.Errorf("Info(%02x) is %v, %v", op, got, is)
		}
	}
}

// O2

func TestJumpsThatAreKnown(t *testing.T) {
	for code, want := range map[string][]int{
		"":                                  nil,
		"\x00":                              nil,
		"\x5b":                              {0},
		"\x60\x05\x5b":                      {2},
		"\x60\x5b":                          nil,
		"\x60\x5b\x5b":                      {2},
		"\x5f\x5b":                          {1},
		"\x80\x5b":                          {1},
		"\x60\x60\x5b":                      {2},
		"\x60\x60\x60\x5b\x5b":              {4},
		"\x0c\x5b\xef\x5b\xfe\x5b":          {1, 3, 5},
		"\x7f" + strings.Repeat("\x5b", 34): {33, 34},
	} {
		if got := opcode.Jumps(code); !slices.Equal(got, want) {
			t.Errorf("Jumps(%x) is %v, not %v", code, got, want)
		}
	}
}

func TestJumpsOfShortCodes(t *testing.T) {
	short("\x00\x5b\x5f\x60\x61\x63\xff", 6, func(code string) { expectJumps(t, code) })
}

func TestJumpsBehindEachOpcode(t *testing.T) {
	for n := range 256 {
		for many := range 40 {
			code := string([]byte{byte(n)}) + strings.Repeat("\x5b", many)
			expectJumps(t, code)
			expectJumps(t, "\x5b"+code+code)
		}
	}
}

func TestJumpsOfMixedCodes(t *testing.T) {
	x := uint64(88172645463325252)
	for range 3000 {
		expectJumps(t, mixed(&x, next(&x)%150))
	}
}

func TestPushesThatAreKnown(t *testing.T) {
	code := "\x62\x01\x02\x03\xff"
	for x, want := range map[[2]int]uint64{
		{0, 3}: 0x010203, {0, 1}: 0x01, {0, 4}: 0x010203ff, {0, 5}: 0x010203ff00, {0, 8}: 0x010203ff00000000,
		{1, 2}: 0x0203, {3, 1}: 0xff, {3, 2}: 0xff00, {4, 1}: 0, {4, 8}: 0, {5, 1}: 0, {-1, 1}: 0, {-1, 3}: 0, {0, 0}: 0, {0, -1}: 0, {0, 33}: 0, {0, 40}: 0,
	} {
		if got := opcode.Push(code, x[0], x[1]); got != (api.Word{want}) {
			t.Errorf("Push of %v is %x", x, got)
		}
	}
	if got := opcode.Push("\x7f\x01", 0, 32); got != (api.Word{3: 1 << 56}) {
		t.Errorf("Push of 32 is %x", got)
	}
}

func TestPushOfEachPlaceAndNumber(t *testing.T) {
	x := uint64(7046029254386353131)
	for many := range 70 {
		code := mixed(&x, many)
		for pc := -2; pc < many+3; pc++ {
			for n := -2; n < 36; n++ {
				expectPush(t, code, pc, n)
			}
		}
	}
}

func TestPushOfGreatNumbers(t *testing.T) {
	for _, code := range []string{"", "\x60", "\x60\x01\x02", strings.Repeat("\x7f", 300)} {
		for _, great := range greatNumbers() {
			for _, other := range append(greatNumbers(), -1, 0, 1, 2, 32, 33) {
				expectPush(t, code, great, other)
				expectPush(t, code, other, great)
			}
		}
	}
}

// O3

func TestTextsThatAreKnown(t *testing.T) {
	for code, want := range map[string]string{
		"":                                  "",
		"\x60\x05\x5b":                      "PUSH1 0x05\nJUMPDEST\n",
		"\x00\x0c\xef\xfe":                  "STOP\n0x0c\n0xef\nINVALID\n",
		"\x60":                              "PUSH1 0x\n",
		"\x61\xab":                          "PUSH2 0xab\n",
		"\x5f\x61\x00\x0f\x5f":              "PUSH0\nPUSH2 0x000f\nPUSH0\n",
		"\x80\x9f\xa4\xf5":                  "DUP1\nSWAP16\nLOG4\nCREATE2\n",
		"\x7f" + strings.Repeat("\xf0", 31): "PUSH32 0x" + strings.Repeat("f0", 31) + "\n",
	} {
		if got := opcode.Text(code); got != want {
			t.Errorf("Text(%x) is %q, not %q", code, got, want)
		}
	}
}

func TestTextOfEachOpcode(t *testing.T) {
	for n := range 256 {
		for many := range 40 {
			expectText(t, string([]byte{byte(n)})+strings.Repeat("\x9a", many))
		}
	}
}

// O3, O5

func TestTextOfShortCodes(t *testing.T) {
	short("\x00\x0c\x5b\x60\x61\xff", 5, func(code string) { expectText(t, code) })
}

func TestTextOfMixedCodes(t *testing.T) {
	x := uint64(88172645463325252)
	for range 2000 {
		expectText(t, mixed(&x, next(&x)%200))
	}
}

// O4

func TestParseOfEachOpcode(t *testing.T) {
	for n := range 256 {
		op := byte(n)
		first := firstWord(op)
		for _, tail := range []string{"", " ", "  ", " 0x", " 0x0", " 0x00", "0x00", " 0x00 ", " 00", " x", "\t", " \t", "\r", "\x00", "x", "0"} {
			for _, end := range []string{"", "\n", "\n\n", "\nSTOP", "\nSTOP\n"} {
				expectParse(t, first+tail+end)
			}
		}
		for _, other := range []string{strings.ToLower(first), strings.ToUpper(first), first[:len(first)-1], first[1:], " " + first, "\t" + first, fmt.Sprintf("0x%02x", n), fmt.Sprintf("0X%02x", n), fmt.Sprintf("%02x", n), fmt.Sprintf("0x%x", n), fmt.Sprintf("0x0%02x", n), fmt.Sprintf("0x%02X", n), fmt.Sprint(n)} {
			expectParse(t, other)
			expectParse(t, other+" 0x00")
		}
	}
}

func TestParseOfEachNumberOfDigits(t *testing.T) {
	for n := range 34 {
		for many := range 70 {
			line := fmt.Sprintf("PUSH%d 0x%s", n, strings.Repeat("c", many))
			for _, end := range []string{"", "\n", "\nADD", "\nADD\n", "\nPUSH1 0x\n", "\nNONE"} {
				expectParse(t, line+end)
				expectParse(t, "JUMP\n0x0c\n"+line+end)
			}
		}
	}
}

func TestParseOfEachDigit(t *testing.T) {
	for n := range 256 {
		b := string([]byte{byte(n)})
		for _, line := range []string{"PUSH1 0x" + b + "0", "PUSH1 0x0" + b, "PUSH2 0x11" + b + "1", "PUSH1 0x" + b, "PUSH1 0x00" + b, "PUSH1 0" + b + "00", "PUSH1 " + b + "x00", "PUSH1" + b + "0x00", "0x" + b + "c", "0x0" + b, "0" + b + "0c", b + "x0c", "ADD" + b, b + "ADD", b} {
			expectParse(t, line)
			expectParse(t, line+"\nADD\n")
		}
	}
}

func TestTextsThatAreNone(t *testing.T) {
	for _, x := range []struct {
		text   string
		e      api.Errno
		number int
	}{
		{"\n", api.ErrOp, 0},
		{"\n\n", api.ErrOp, 0},
		{"ADD\n\n", api.ErrOp, 1},
		{" ", api.ErrOp, 0},
		{" ADD", api.ErrOp, 0},
		{"ADD\r\nADD", api.ErrOp, 0},
		{"ADD\tx", api.ErrOp, 0},
		{"Add", api.ErrOp, 0},
		{"NONE 0x01", api.ErrOp, 0},
		{"PUSH33 0x01", api.ErrOp, 0},
		{"PUSH01 0x01", api.ErrOp, 0},
		{"DUP0", api.ErrOp, 0},
		{"DUP17", api.ErrOp, 0},
		{"SWAP17", api.ErrOp, 0},
		{"LOG5", api.ErrOp, 0},
		{"0x01", api.ErrOp, 0},
		{"0x5b", api.ErrOp, 0},
		{"0x0C", api.ErrOp, 0},
		{"0x", api.ErrOp, 0},
		{"0xc", api.ErrOp, 0},
		{"0x0c0", api.ErrOp, 0},
		{"0x0c\x00", api.ErrOp, 0},
		{"STOP\nSTOP\nSTOP\nNONE\nADD 1", api.ErrOp, 3},
		{"ADD 0x", api.ErrText, 0},
		{"ADD ", api.ErrText, 0},
		{"PUSH0 ", api.ErrText, 0},
		{"PUSH0 0x00", api.ErrText, 0},
		{"0x0c ", api.ErrText, 0},
		{"0x0c 0x00", api.ErrText, 0},
		{"PUSH1", api.ErrText, 0},
		{"PUSH1\n", api.ErrText, 0},
		{"PUSH1 ", api.ErrText, 0},
		{"PUSH1 0", api.ErrText, 0},
		{"PUSH1 0x5", api.ErrText, 0},
		{"PUSH1 0x0G", api.ErrText, 0},
		{"PUSH1 0x0A", api.ErrText, 0},
		{"PUSH1 0X0a", api.ErrText, 0},
		{"PUSH1 0x0a ", api.ErrText, 0},
		{"PUSH1 0x0a\r", api.ErrText, 0},
		{"PUSH1 0x0a0b", api.ErrText, 0},
		{"PUSH1  0x0a", api.ErrText, 0},
		{"PUSH1 0x\n\n", api.ErrText, 0},
		{"PUSH2 0x0a\nADD", api.ErrText, 0},
		{"ADD\nPUSH2 0x0a\nNONE", api.ErrText, 1},
		{"ADD 1\nNONE", api.ErrText, 0},
	} {
		if code, e, number := opcode.Parse(x.text); code != "" || e != x.e || number != x.number {
			t.Errorf("Parse(%q) is %x, %d, %d, not %d, %d", x.text, code, e, number, x.e, x.number)
		}
	}
}

func TestTextsThatAreCodes(t *testing.T) {
	for text, want := range map[string]string{
		"":                         "",
		"ADD":                      "\x01",
		"ADD\n":                    "\x01",
		"PUSH1 0x05\nJUMPDEST":     "\x60\x05\x5b",
		"0x0c\n0xef\n0xfc\n":       "\x0c\xef\xfc",
		"PUSH1 0x":                 "\x60",
		"PUSH1 0x\n":               "\x60",
		"PUSH2 0x0102\nPUSH2 0x01": "\x61\x01\x02\x61\x01",
		"PUSH2 0x\n":               "\x61",
		"INVALID\nSELFDESTRUCT\n":  "\xfe\xff",
		"PUSH32 0x" + strings.Repeat("0a", 32) + "\nSTOP": "\x7f" + strings.Repeat("\x0a", 32) + "\x00",
	} {
		if code, e, number := opcode.Parse(text); code != want || e != api.OK || number != 0 {
			t.Errorf("Parse(%q) is %x, %d, %d", text, code, e, number)
		}
	}
}

func TestParseOfShortTexts(t *testing.T) {
	short("A\n 0xcPC", 4, func(text string) { expectParse(t, text) })
	short("1a0 \n", 5, func(text string) { expectParse(t, "PUSH"+text) })
	short("0x1a \n", 5, func(text string) { expectParse(t, "PUSH2 0x"+text) })
}

// Lines of which one, or more, were changed: what is wrong is told of the first of them.
func TestParseOfChangedTexts(t *testing.T) {
	const bytes = "\n\n  0xxaA9\r\x00\xffP"
	x := uint64(7046029254386353131)
	many := map[api.Errno]int{}
	for range 20000 {
		text := []byte(opcode.Text(mixed(&x, 1+next(&x)%30)))
		for range next(&x) % 4 {
			at, b := next(&x)%len(text), bytes[next(&x)%len(bytes)]
			switch next(&x) % 3 {
			case 0:
				text[at] = b
			case 1:
				text = slices.Insert(text, at, b)
			case 2:
				text = append(slices.Delete(text, at, at+1), '\n')
			}
		}
		many[expectParse(t, string(text))]++
	}
	if many[api.OK] < 1000 || many[api.ErrOp] < 1000 || many[api.ErrText] < 500 {
		t.Error(many)
	}
}

// O5

func TestNoJumpWithinWhatIsPushed(t *testing.T) {
	for n := 1; n <= 32; n++ {
		for ahead := range 4 {
			code := strings.Repeat("\x5b", ahead) + string([]byte{byte(0x5f + n)}) + strings.Repeat("\x5b", 40)
			for _, place := range opcode.Jumps(code) {
				if place >= ahead && place <= ahead+n {
					t.Errorf("PUSH%d at %d: %d", n, ahead, place)
				}
			}
		}
	}
}

func TestTextUndoesParseOfWholeLines(t *testing.T) {
	var text strings.Builder
	for n := range 256 {
		x := step{op: byte(n), bytes: strings.Repeat("\xa5", behindOp(byte(n)))}
		text.WriteString(line(x) + "\n")
	}
	code, e, _ := opcode.Parse(text.String())
	if e != api.OK || opcode.Text(code) != text.String() {
		t.Errorf("%d, %q", e, opcode.Text(code))
	}
}

// R1, R3, R4

func TestGreatCodes(t *testing.T) {
	for _, part := range []string{"\x5b", "\x60\x5b", "\x7f", "\x5b\x0c", "\x62\x01\x02\x03\x5b\x00"} {
		// What is pushed last is whole, so that another line may stand behind it.
		code := strings.Repeat(part, 1<<18) + strings.Repeat("\x00", 33)
		text := opcode.Text(code)
		back, e, number := opcode.Parse(text)
		if back != code || e != api.OK || number != 0 {
			t.Errorf("%x: %d bytes, %d, %d", part, len(back), e, number)
		}
		if got := opcode.Jumps(code); !slices.Equal(got, mayJump(code)) {
			t.Errorf("%x: %d jumps", part, len(got))
		}
		if back, e, number := opcode.Parse(text + "NONE"); back != "" || e != api.ErrOp || number != strings.Count(text, "\n") {
			t.Errorf("%x: %d bytes, %d, %d", part, len(back), e, number)
		}
	}
	for _, text := range []string{strings.Repeat("A", 1<<24), "PUSH1 0x" + strings.Repeat("0", 1<<24), "PUSH1 " + strings.Repeat(" ", 1<<24), strings.Repeat("\n", 1<<24)} {
		if code, e, number := opcode.Parse(text); code != "" || e == api.OK || number != 0 {
			t.Errorf("%q: %d bytes, %d, %d", text[:10], len(code), e, number)
		}
	}
}

func TestAnswersAreNewMemory(t *testing.T) {
	for _, code := range []string{"\x5b", "\x5b\x60\x5b\x5b", strings.Repeat("\x5b", 100)} {
		first, second := opcode.Jumps(code), opcode.Jumps(code)
		whole := first[:cap(first)]
		for i := range whole {
			whole[i] = -7
		}
		if want := mayJump(code); !slices.Equal(second, want) || !slices.Equal(opcode.Jumps(code), want) {
			t.Errorf("Jumps(%x): %v", code, second)
		}
	}
}

func TestTheSameAnswersAgain(t *testing.T) {
	x := uint64(88172645463325252)
	code := mixed(&x, 500)
	text, jumps := opcode.Text(code), opcode.Jumps(code)
	for range 100 {
		if opcode.Text(code) != text || !slices.Equal(opcode.Jumps(code), jumps) {
			t.Fatal("another answer to the same")
		}
		expectText(t, code)
		expectParse(t, text+"\nADD 1")
		expectParse(t, "PUSH1 0x\n"+text)
	}
}
