package compute_test

import (
	"slices"
	"sync"
	"testing"

	"railhead/api"
	"railhead/compute"
	"railhead/opcode"
	"railhead/word"
)

const all = 1<<64 - 1

func of(l ...int) []api.Word {
	var out []api.Word
	for _, n := range l {
		out = append(out, word.Of(n))
	}
	return out
}

// tall is a stack of so many words, of which no two are the same, and of which each part of a word tells it from the others.
func tall(many int) []api.Word {
	var out []api.Word
	for i := range many {
		part := uint64(i + 1)
		out = append(out, api.Word{part, part << 40, ^part, part * part})
	}
	return out
}

// next is the next one of mixed numbers, which are always the same.
func next(x *uint64) uint64 {
	*x ^= *x << 13
	*x ^= *x >> 7
	*x ^= *x << 17
	return *x
}

// mixed is a word of mixed bits; of four of them one is small, and one is next to an end.
func mixed(x *uint64) api.Word {
	switch next(x) % 4 {
	case 0:
		return word.Of(int(next(x)%600) - 300)
	case 1:
		return edges()[next(x)%uint64(len(edges()))]
	}
	return api.Word{next(x), next(x), next(x), next(x)}
}

// edges are words at which something begins anew: of signs, of bytes, of shifts, of parts and of all.
func edges() []api.Word {
	out := of(0, 1, 2, 3, 7, 8, 29, 30, 31, 32, 127, 128, 255, 256, 257, -1, -2, -3, -127, -128, -129, -256)
	return append(out,
		api.Word{all}, api.Word{0, 1}, api.Word{5, 1}, api.Word{31, 0, 0, 1}, api.Word{0, 0, 1}, api.Word{all, all},
		api.Word{3: 1 << 63}, api.Word{1, 0, 0, 1 << 63}, api.Word{all, all, all, 1<<63 - 1}, api.Word{all - 1, all, all, 1<<63 - 1},
		api.Word{0x8877665544332211, 0x11ffeeddccbbaa99, 0x99aabbccddeeff80, 0x8182838485868788})
}

// simple are the opcodes that are listed, but for those that double and change.
func simple() []byte {
	var out []byte
	for op := range 0x80 {
		if listed(byte(op)) {
			out = append(out, byte(op))
		}
	}
	return out
}

// T1

func TestIsOfEachByte(t *testing.T) {
	many := 0
	for op := range 256 {
		if compute.Is(byte(op)) != listed(byte(op)) {
			t.Errorf("Is(%02x) is %v", op, compute.Is(byte(op)))
		}
		if compute.Is(byte(op)) {
			many++
		}
	}
	if many != 58 {
		t.Error(many)
	}
	for _, op := range []byte{0x00, 0x0c, 0x0f, 0x1e, 0x1f, 0x20, 0x4f, 0x51, 0x5f, 0x60, 0x7f, 0xa0, 0xfe, 0xff} {
		if compute.Is(op) {
			t.Errorf("%02x works not on the stack alone", op)
		}
	}
}

// T2

func TestOpcodesThatAreKnown(t *testing.T) {
	// The last word is on top. A word below all of these stays what it is.
	for _, x := range []struct {
		op   byte
		s    []api.Word
		want []api.Word
	}{
		{0x01, of(3, -5), of(-2)},
		{0x01, of(1, -1), of(0)},
		{0x02, of(-3, 5), of(-15)},
		{0x03, of(3, 5), of(2)},
		{0x03, of(5, 3), of(-2)},
		{0x04, of(5, 17), of(3)},
		{0x04, of(17, 5), of(0)},
		{0x04, of(0, 17), of(0)},
		{0x05, of(2, -7), of(-3)},
		{0x05, of(-7, 2), of(0)},
		{0x05, of(0, -7), of(0)},
		{0x06, of(5, 17), of(2)},
		{0x06, of(17, 5), of(5)},
		{0x06, of(0, 17), of(0)},
		{0x07, of(2, -7), of(-1)},
		{0x07, of(-7, 2), of(2)},
		{0x07, of(0, -7), of(0)},
		{0x08, of(10, 7, 5), of(2)},
		{0x08, of(5, 7, 10), of(2)},
		{0x08, of(7, -1, -1), of(2)},
		{0x08, of(0, 7, 5), of(0)},
		{0x09, of(10, 7, 5), of(5)},
		{0x09, of(6, 7, 10), of(4)},
		{0x09, of(7, 4, -1), of(4)},
		{0x09, of(0, 7, 5), of(0)},
		{0x0a, of(3, 2), of(8)},
		{0x0a, of(2, 3), of(9)},
		{0x0a, of(0, 0), of(1)},
		{0x0a, of(256, 2), of(0)},
		{0x0b, of(255, 0), of(-1)},
		{0x0b, of(0x17f, 0), of(0x7f)},
		{0x0b, of(0x8000, 1), of(-0x8000)},
		{0x0b, of(0x8000, 31), of(0x8000)},
		{0x10, of(5, 3), of(1)},
		{0x10, of(3, 5), of(0)},
		{0x10, of(3, 3), of(0)},
		{0x10, of(-1, 0), of(1)},
		{0x11, of(3, 5), of(1)},
		{0x11, of(5, 3), of(0)},
		{0x11, of(3, 3), of(0)},
		{0x11, of(0, -1), of(1)},
		{0x12, of(0, -1), of(1)},
		{0x12, of(-1, 0), of(0)},
		{0x12, of(-1, -1), of(0)},
		{0x13, of(-1, 0), of(1)},
		{0x13, of(0, -1), of(0)},
		{0x13, of(-1, -1), of(0)},
		{0x14, of(3, 3), of(1)},
		{0x14, of(3, 4), of(0)},
		{0x15, of(0), of(1)},
		{0x15, of(1), of(0)},
		{0x15, []api.Word{{3: 1}}, of(0)},
		{0x16, of(12, 10), of(8)},
		{0x17, of(12, 10), of(14)},
		{0x18, of(12, 10), of(6)},
		{0x19, of(0), of(-1)},
		{0x19, of(5), of(-6)},
		{0x1a, of(7, 31), of(7)},
		{0x1a, of(31, 7), of(0)},
		{0x1a, of(-1, 32), of(0)},
		{0x1b, of(5, 2), of(20)},
		{0x1b, of(2, 5), of(64)},
		{0x1b, of(5, 256), of(0)},
		{0x1c, of(20, 2), of(5)},
		{0x1c, of(2, 20), of(0)},
		{0x1c, of(-1, 255), of(1)},
		{0x1d, of(-8, 1), of(-4)},
		{0x1d, of(8, 1), of(4)},
		{0x1d, of(-8, 256), of(-1)},
		{0x50, of(1, 2), of(1)},
		{0x50, of(1), nil},
		{0x80, of(1, 2), of(1, 2, 2)},
		{0x81, of(1, 2), of(1, 2, 1)},
		{0x90, of(1, 2), of(2, 1)},
		{0x91, of(1, 2, 3), of(3, 2, 1)},
	} {
		for _, below := range [][]api.Word{nil, of(77), tall(5), tall(1000)} {
			s, want := slices.Concat(below, x.s), slices.Concat(below, x.want)
			if got, e := compute.Do(x.op, s); !slices.Equal(got, want) || e != api.OK {
				t.Errorf("%02x of %x on %d words: %x (%d words), %d", x.op, x.s, len(below), few(got), len(got), e)
			}
		}
	}
}

func TestEachOpcodeOfEdges(t *testing.T) {
	for _, op := range simple() {
		for _, a := range edges() {
			for _, b := range edges() {
				if popsOf(op) < 3 {
					expect(t, op, []api.Word{{9, 9, 9, 9}, b, a})
					continue
				}
				for _, c := range edges() {
					expect(t, op, []api.Word{{9, 9, 9, 9}, c, b, a})
				}
			}
		}
	}
}

func TestEachOpcodeOfMixedWords(t *testing.T) {
	x := uint64(88172645463325252)
	for _, op := range simple() {
		for range 2000 {
			expect(t, op, []api.Word{mixed(&x), mixed(&x), mixed(&x), mixed(&x)})
		}
	}
}

func TestEachByteOnShortStacks(t *testing.T) {
	for op := range 256 {
		for many := range 40 {
			expect(t, byte(op), tall(many))
			expect(t, byte(op), make([]api.Word, many))
		}
	}
}

func TestEachByteOnGreatStacks(t *testing.T) {
	for _, many := range []int{255, 256, 257, 1000, 1022, 1023, 1024, 1025, 1026, 1040, 2048, 2049, 70000} {
		s := tall(many)
		for op := range 256 {
			expect(t, byte(op), s)
		}
	}
}

func TestEachNumberOfWordsThatAreTooFew(t *testing.T) {
	x := uint64(7046029254386353131)
	for op := range 256 {
		if !listed(byte(op)) {
			continue
		}
		pops := popsOf(byte(op))
		for many := range pops + 1 {
			var s []api.Word
			for range many {
				s = append(s, mixed(&x))
			}
			got, e := compute.Do(byte(op), s)
			switch {
			case many < pops && (e != api.ErrUnder || !slices.Equal(got, s)):
				t.Errorf("%02x of %d words: %d words, %d", op, many, len(got), e)
			case many == pops && e != api.OK:
				t.Errorf("%02x of %d words: %d", op, many, e)
			}
		}
	}
}

// Only what grows can be too much: on a full stack all others go.
func TestFullStacks(t *testing.T) {
	full := tall(1024)
	for op := range 256 {
		if !listed(byte(op)) {
			continue
		}
		got, e := compute.Do(byte(op), full)
		switch doubles := op&0xf0 == 0x80; {
		case doubles && (e != api.ErrOver || !slices.Equal(got, full)):
			t.Errorf("%02x: %d words, %d", op, len(got), e)
		case !doubles && (e != api.OK || slices.Equal(got, full)):
			t.Errorf("%02x: %d words, %d", op, len(got), e)
		}
		if got, e := compute.Do(byte(op), full[1:]); e != api.OK || len(got) != 1023-popsOf(byte(op))+pushesOf(byte(op)) {
			t.Errorf("%02x of one word fewer: %d words, %d", op, len(got), e)
		}
	}
}

// What is no opcode of these is told first, then what is no stack, and only then what is on it.
func TestWhichErrorIsToldFirst(t *testing.T) {
	for op := range 256 {
		for _, many := range []int{0, 1, 1024, 1025, 5000} {
			s := tall(many)
			got, e := compute.Do(byte(op), s)
			switch {
			case !slices.Equal(got, s) && e != api.OK:
				t.Errorf("%02x of %d words: they are %d", op, many, len(got))
			case !listed(byte(op)) && e != api.ErrOp, listed(byte(op)) && many > 1024 && e != api.ErrArg:
				t.Errorf("%02x of %d words: %d", op, many, e)
			}
		}
	}
}

// Whatever is done, one thing behind the other: the stack is as the chapter has it.
func TestLongRuns(t *testing.T) {
	x := uint64(2463534242)
	told := map[api.Errno]int{}
	for _, many := range []int{0, 3, 20, 1000, 1020} {
		var s []api.Word
		for range many {
			s = append(s, mixed(&x))
		}
		for range 1500 {
			op := byte(next(&x))
			if next(&x)%3 > 0 {
				op = 0x80 + byte(next(&x)%32)
			}
			var e api.Errno
			s, e = expect(t, op, s)
			told[e]++
		}
	}
	for _, e := range []api.Errno{api.OK, api.ErrOp, api.ErrUnder, api.ErrOver} {
		if told[e] < 20 {
			t.Errorf("the error %d was told %d times", e, told[e])
		}
	}
}

func TestTheChaptersExample(t *testing.T) {
	if got, e := compute.Do(0x03, of(3, 5)); !slices.Equal(got, of(2)) || e != api.OK {
		t.Error(got, e)
	}
}

// T3

func TestAsManyAsInfoTells(t *testing.T) {
	for op := range 256 {
		if !compute.Is(byte(op)) {
			continue
		}
		about, is := opcode.Info(byte(op))
		if !is {
			t.Errorf("%02x is no opcode", op)
		}
		for _, below := range []int{0, 1, 2, 7, 1000} {
			s := tall(below + about.Pops)
			got, e := compute.Do(byte(op), s)
			if e != api.OK || len(got) != below+about.Pushes || !slices.Equal(got[:below], s[:below]) {
				t.Errorf("%s on %d words: %d words, %d", about.Name, below, len(got), e)
			}
		}
		for many := range about.Pops {
			if _, e := compute.Do(byte(op), tall(many)); e != api.ErrUnder {
				t.Errorf("%s of %d words: %d", about.Name, many, e)
			}
		}
	}
}

func TestOneIsSoOfLessSameAndGreater(t *testing.T) {
	x := uint64(88172645463325252)
	pairs := [][]api.Word{}
	for _, a := range edges() {
		for _, b := range edges() {
			pairs = append(pairs, []api.Word{b, a})
		}
	}
	for range 500 {
		pairs = append(pairs, []api.Word{mixed(&x), mixed(&x)})
	}
	for _, s := range pairs {
		for _, three := range [][]byte{{0x10, 0x14, 0x11}, {0x12, 0x14, 0x13}} {
			sum := api.Word{}
			for _, op := range three {
				got, e := compute.Do(op, s)
				if e != api.OK || len(got) != 1 || got[0] != word.Of(0) && got[0] != word.Of(1) {
					t.Fatalf("%02x of %x: %x, %d", op, s, got, e)
				}
				sum = word.Add(sum, got[0])
			}
			if sum != word.Of(1) {
				t.Errorf("%x: of %x %x are so", s, three, sum)
			}
		}
	}
}

// R3, R4

// answers are all that Do tells of a stack, an opcode behind the other.
func answers(s []api.Word) [][]api.Word {
	var out [][]api.Word
	for op := range 256 {
		got, _ := compute.Do(byte(op), s)
		out = append(out, got)
	}
	return out
}

// scribble writes into all that there is of a list, and behind it.
func scribble(l []api.Word) {
	l = l[:cap(l)]
	for i := range l {
		l[i] = word.Of(-7777777)
	}
}

func copies(l [][]api.Word) [][]api.Word {
	var out [][]api.Word
	for _, s := range l {
		out = append(out, slices.Clone(s))
	}
	return out
}

func same(a, b [][]api.Word) bool {
	return slices.EqualFunc(a, b, slices.Equal[[]api.Word])
}

func TestAnswersAreNewMemory(t *testing.T) {
	for _, many := range []int{0, 1, 2, 3, 5, 20, 1023, 1024, 1025} {
		s := tall(many + 9)
		was := slices.Clone(s)
		told := answers(s[:many])
		wereTold := copies(told)
		for i := range told {
			scribble(told[i])
			if !slices.Equal(s, was) {
				t.Fatalf("%02x of %d words: what was handed in is changed", i, many)
			}
		}
		again := answers(s[:many])
		if !same(again, wereTold) {
			t.Errorf("%d words: another answer to the same", many)
		}
		for i := range again {
			scribble(again[i])
			if !same(again[i+1:], wereTold[i+1:]) {
				t.Fatalf("%02x of %d words: another answer is changed", i, many)
			}
		}
		again = answers(s[:many])
		scribble(s)
		if !same(again, wereTold) {
			t.Errorf("%d words: what was handed in was kept", many)
		}
	}
}

func TestTheSameAtOnce(t *testing.T) {
	s := tall(30)
	want := answers(s)
	told := make([][][]api.Word, 8)
	var workers sync.WaitGroup
	for i := range told {
		workers.Go(func() { told[i] = answers(s) })
	}
	workers.Wait()
	for i := range told {
		if !same(told[i], want) {
			t.Error(i)
		}
	}
}
