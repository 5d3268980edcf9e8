package stack_test

import (
	"math"
	"slices"
	"testing"

	"railhead/api"
	"railhead/stack"
	"railhead/word"
)

// tall is a stack of so many words, of which no two are the same, and of which each part of a word tells it from the others.
func tall(many int) []api.Word {
	var out []api.Word
	for i := range many {
		part := uint64(i + 1)
		out = append(out, api.Word{part, part << 40, ^part, part * part})
	}
	return out
}

// others are so many words that no tall stack has.
func others(many int) []api.Word {
	var out []api.Word
	for i := range many {
		out = append(out, word.Of(-1-i))
	}
	return out
}

func of(l ...int) []api.Word {
	var out []api.Word
	for _, n := range l {
		out = append(out, word.Of(n))
	}
	return out
}

// greatNumbers are those at which something might begin anew, and those about them.
func greatNumbers() []int {
	out := []int{math.MinInt, math.MinInt + 1, math.MinInt + 1024, math.MaxInt, math.MaxInt - 1, math.MaxInt - 1023, math.MaxInt - 1024}
	for _, bits := range []int{8, 10, 11, 16, 31, 32, 58, 59, 62} {
		for more := -1; more <= 1; more++ {
			out = append(out, 1<<bits+more, -(1<<bits + more))
		}
	}
	return out
}

// M1

func TestPushOnShortStacks(t *testing.T) {
	for many := range 20 {
		for more := range 20 {
			expectPush(t, tall(many), others(more)...)
		}
	}
}

func TestPushOfTheSameWords(t *testing.T) {
	expectPush(t, make([]api.Word, 3), make([]api.Word, 3)...)
	expectPush(t, of(7, 7), of(7)...)
	s := tall(9)
	expectPush(t, s, s...)
	expectPush(t, s[:4], s[2:6]...)
}

func TestPushUpToTheLimit(t *testing.T) {
	for _, many := range []int{0, 1, 2, 16, 512, 1000, 1007, 1008, 1009, 1022, 1023, 1024} {
		for more := -3; more <= 3; more++ {
			expectPush(t, tall(many), others(max(0, 1024-many+more))...)
		}
		for _, more := range []int{0, 1, 2, 1023, 1024, 1025, 2048, 70000} {
			expectPush(t, tall(many), others(more)...)
		}
	}
}

func TestPushThatIsTooMuch(t *testing.T) {
	for _, x := range [][2]int{{1024, 1}, {1023, 2}, {0, 1025}, {1, 1024}, {512, 513}, {1024, 1024}} {
		s := tall(x[0])
		if got, e := stack.Push(s, others(x[1])...); !slices.Equal(got, s) || e != api.ErrOver {
			t.Errorf("%d on %d: %d words, %d", x[1], x[0], len(got), e)
		}
	}
	full := tall(1024)
	if got, e := stack.Push(full); !slices.Equal(got, full) || e != api.OK {
		t.Errorf("none on 1024: %d words, %d", len(got), e)
	}
}

// M2, M3

func TestEachNumberOnShortStacks(t *testing.T) {
	for many := range 40 {
		for n := -5; n < 45; n++ {
			expectNumber(t, tall(many), n)
		}
		for _, n := range greatNumbers() {
			expectNumber(t, tall(many), n)
		}
	}
}

func TestEachNumberOnGreatStacks(t *testing.T) {
	for _, many := range []int{1008, 1022, 1023, 1024} {
		s := tall(many)
		for n := -2; n < 1030; n += 1 + n*n%7 {
			expectNumber(t, s, n)
		}
		for _, n := range append(greatNumbers(), 1, 2, 15, 16, 17, many-2, many-1, many, many+1, 1022, 1023, 1024, 1025, 1026) {
			expectNumber(t, s, n)
		}
	}
}

func TestNumbersThatMayNotBe(t *testing.T) {
	for _, many := range []int{0, 1, 5, 1024} {
		s := tall(many)
		for _, n := range []int{0, -1, -2, -1024, math.MinInt} {
			if got, e := stack.Dup(s, n); !slices.Equal(got, s) || e != api.ErrArg {
				t.Errorf("Dup %d of %d: %d words, %d", n, many, len(got), e)
			}
			if got, e := stack.Swap(s, n); !slices.Equal(got, s) || e != api.ErrArg {
				t.Errorf("Swap %d of %d: %d words, %d", n, many, len(got), e)
			}
			want := api.ErrArg
			if n == 0 {
				want = api.OK
			}
			if got, taken, e := stack.Pop(s, n); !slices.Equal(got, s) || len(taken) > 0 || e != want {
				t.Errorf("Pop %d of %d: %d words, %d, %d", n, many, len(got), len(taken), e)
			}
		}
	}
}

func TestNumbersThatAreTooMuch(t *testing.T) {
	for _, many := range []int{0, 1, 5, 1023, 1024} {
		s := tall(many)
		for _, n := range []int{many + 1, many + 2, 2000, math.MaxInt - 1, math.MaxInt} {
			if got, taken, e := stack.Pop(s, n); !slices.Equal(got, s) || len(taken) > 0 || e != api.ErrUnder {
				t.Errorf("Pop %d of %d: %d words, %d, %d", n, many, len(got), len(taken), e)
			}
			// Of a full stack it is told first that it has too few.
			if got, e := stack.Dup(s, n); !slices.Equal(got, s) || e != api.ErrUnder {
				t.Errorf("Dup %d of %d: %d words, %d", n, many, len(got), e)
			}
		}
		for _, n := range []int{max(1, many), many + 1, 2000, math.MaxInt - 1, math.MaxInt} {
			if got, e := stack.Swap(s, n); !slices.Equal(got, s) || e != api.ErrUnder {
				t.Errorf("Swap %d of %d: %d words, %d", n, many, len(got), e)
			}
		}
	}
}

func TestDupOfAFullStack(t *testing.T) {
	full := tall(1024)
	for _, n := range []int{1, 2, 16, 1023, 1024} {
		if got, e := stack.Dup(full, n); !slices.Equal(got, full) || e != api.ErrOver {
			t.Errorf("Dup %d: %d words, %d", n, len(got), e)
		}
		if got, e := stack.Dup(full[1:], min(n, 1023)); len(got) != 1024 || got[1023] != full[1024-min(n, 1023)] || e != api.OK {
			t.Errorf("Dup %d of one word fewer: %d words, %d", n, len(got), e)
		}
	}
}

// M1 to M3

// Where it may not be, nothing else is told of it, whatever is asked for.
func TestStacksThatMayNotBe(t *testing.T) {
	for _, many := range []int{1025, 1026, 1040, 2047, 2048, 2049, 5000, 65536, 65537} {
		s := tall(many)
		for _, more := range []int{0, 1, 2, 1024, 1025} {
			if got, e := stack.Push(s, others(more)...); !slices.Equal(got, s) || e != api.ErrArg {
				t.Errorf("Push of %d on %d: %d words, %d", more, many, len(got), e)
			}
		}
		for _, n := range append(greatNumbers(), -1, 0, 1, 2, 1023, 1024, 1025, many-1024, many-1, many, many+1) {
			if got, taken, e := stack.Pop(s, n); !slices.Equal(got, s) || len(taken) > 0 || e != api.ErrArg {
				t.Errorf("Pop %d of %d: %d words, %d, %d", n, many, len(got), len(taken), e)
			}
			if got, e := stack.Dup(s, n); !slices.Equal(got, s) || e != api.ErrArg {
				t.Errorf("Dup %d of %d: %d words, %d", n, many, len(got), e)
			}
			if got, e := stack.Swap(s, n); !slices.Equal(got, s) || e != api.ErrArg {
				t.Errorf("Swap %d of %d: %d words, %d", n, many, len(got), e)
			}
		}
	}
}

// next is the next one of mixed numbers, which are always the same.
func next(x *uint64) int {
	*x ^= *x >> 12
	*x ^= *x << 25
	*x ^= *x >> 27
	return int(*x * 2685821657736338717 >> 33)
}

// Whatever is done, one thing behind the other: the stack is as the chapter has it.
func TestLongRuns(t *testing.T) {
	x := uint64(88172645463325252)
	overs := 0
	for _, many := range []int{0, 3, 20, 1000, 1020} {
		s := tall(many)
		for range 400 {
			n := next(&x)%18 - 1
			switch next(&x) % 5 {
			case 0:
				s = expectPush(t, s, api.Word{uint64(next(&x))})
			case 1:
				s = expectPush(t, s, others(next(&x)%7)...)
			case 2:
				s = expectPop(t, s, min(n, 5))
			case 3:
				if len(s) == 1024 {
					overs++
				}
				s = expectDup(t, s, n)
			case 4:
				s = expectSwap(t, s, n)
			}
		}
	}
	if overs == 0 {
		t.Error("no stack was full")
	}
}

// M4

func TestPopUndoesPush(t *testing.T) {
	for _, many := range []int{0, 1, 7, 1000, 1023, 1024} {
		for _, more := range []int{0, 1, 2, 16, 24, 1024} {
			s, l := tall(many), others(more)
			if many+more > 1024 {
				continue
			}
			on, e := stack.Push(s, l...)
			off, taken, f := stack.Pop(on, more)
			slices.Reverse(taken)
			if !slices.Equal(off, s) || !slices.Equal(taken, l) || e != api.OK || f != api.OK {
				t.Errorf("%d on %d: %d words, %d, %d, %d", more, many, len(off), len(taken), e, f)
			}
		}
	}
}

func TestSwapUndoesItself(t *testing.T) {
	for _, many := range []int{2, 3, 17, 1023, 1024} {
		s := tall(many)
		for n := 1; n < many; n += 1 + n/5 {
			once, e := stack.Swap(s, n)
			twice, f := stack.Swap(once, n)
			if slices.Equal(once, s) || !slices.Equal(twice, s) || e != api.OK || f != api.OK {
				t.Errorf("%d of %d: %d, %d", n, many, e, f)
			}
		}
	}
}

func TestDupIsPushOfWhatPopTellsLast(t *testing.T) {
	for _, many := range []int{1, 2, 17, 1023} {
		s := tall(many)
		for n := 1; n <= many; n += 1 + n/5 {
			_, taken, e := stack.Pop(s, n)
			on, f := stack.Push(s, taken[n-1])
			got, g := stack.Dup(s, n)
			if !slices.Equal(got, on) || e != api.OK || f != api.OK || g != api.OK {
				t.Errorf("%d of %d: %d, %d, %d", n, many, e, f, g)
			}
		}
	}
}

func TestTheChaptersExample(t *testing.T) {
	s, e := stack.Push(nil, of(1, 2)...)
	s, f := stack.Dup(s, 2)
	if !slices.Equal(s, of(1, 2, 1)) || e != api.OK || f != api.OK {
		t.Fatal(s, e, f)
	}
	s, e = stack.Swap(s, 2)
	if !slices.Equal(s, of(1, 2, 1)) || e != api.OK {
		t.Fatal(s, e)
	}
	s, taken, e := stack.Pop(s, 2)
	if !slices.Equal(s, of(1)) || !slices.Equal(taken, of(1, 2)) || e != api.OK {
		t.Fatal(s, taken, e)
	}
}

// R3, R4

// answers are all lists that the calls tell of a stack, some of which are as it was.
func answers(s, l []api.Word) [][]api.Word {
	var out [][]api.Word
	add := func(s []api.Word, _ api.Errno) { out = append(out, s) }
	add(stack.Push(s))
	add(stack.Push(s, l...))
	add(stack.Push(nil, l...))
	add(stack.Push(s, others(1025)...))
	for _, n := range []int{-1, 0, 1, 2, 3, len(s), len(s) + 1, math.MaxInt} {
		rest, taken, e := stack.Pop(s, n)
		add(rest, e)
		add(taken, e)
		add(stack.Dup(s, n))
		add(stack.Swap(s, n))
	}
	return out
}

// scribble writes into all that there is of a list, and behind it.
func scribble(l []api.Word) {
	l = l[:cap(l)]
	for i := range l {
		l[i] = word.Of(-7777777)
	}
}

func copies(l [][]api.Word) [][]api.Word {
	var out [][]api.Word
	for _, s := range l {
		out = append(out, slices.Clone(s))
	}
	return out
}

func same(a, b [][]api.Word) bool {
	return slices.EqualFunc(a, b, slices.Equal[[]api.Word])
}

func TestAnswersAreNewMemory(t *testing.T) {
	for _, many := range []int{0, 1, 5, 1023, 1024, 1025} {
		s, l := tall(many+9), others(12)
		wasS, wasL := slices.Clone(s), slices.Clone(l)
		all := answers(s[:many], l[:3])
		was := copies(all)
		for i := range all {
			scribble(all[i])
			if !slices.Equal(s, wasS) || !slices.Equal(l, wasL) {
				t.Fatal(many, i, "what was handed in is changed")
			}
			if !same(all[i+1:], was[i+1:]) {
				t.Fatal(many, i, "another answer is changed")
			}
		}
		again := answers(s[:many], l[:3])
		if !same(again, was) {
			t.Error(many, "another answer to the same")
		}
		scribble(s)
		scribble(l)
		if !same(again, was) {
			t.Error(many, "what was handed in was kept")
		}
	}
}

// Words that stand behind the stack, in the same memory, are pushed as they were then.
func TestPushOfWhatStandsBehindTheStack(t *testing.T) {
	s := tall(12)
	was := slices.Clone(s)
	got, e := stack.Push(s[:4], s[6:9]...)
	if !slices.Equal(s, was) || !slices.Equal(got, slices.Concat(was[:4], was[6:9])) || e != api.OK {
		t.Error(s, got, e)
	}
}
