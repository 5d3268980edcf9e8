package stack_test

import (
	"math/big"
	"slices"
	"testing"

	"railhead/api"
	"railhead/stack"
)

// What follows says what the chapter says, with stacks that are told from the top on, and numbers that have no end.

// turned are words, the last one first.
func turned(l []api.Word) []api.Word {
	var out []api.Word
	for i := range l {
		out = append(out, l[len(l)-1-i])
	}
	return out
}

// fewer tells whether there are fewer words than n, and so many more.
func fewer(many, n, more int) bool {
	sum := new(big.Int).Add(big.NewInt(int64(n)), big.NewInt(int64(more)))
	return big.NewInt(int64(many)).Cmp(sum) < 0
}

// mayBe is what the chapter's words tell of a stack.
func mayBe(s []api.Word) bool { return len(s) <= 1024 }

// pushed is what Push promises.
func pushed(s, l []api.Word) ([]api.Word, api.Errno) {
	if !mayBe(s) {
		return s, api.ErrArg
	}
	if fewer(1024, len(s), len(l)) {
		return s, api.ErrOver
	}
	return turned(append(turned(l), turned(s)...)), api.OK
}

// popped is what Pop promises.
func popped(s []api.Word, n int) ([]api.Word, []api.Word, api.Errno) {
	if !mayBe(s) || n < 0 {
		return s, nil, api.ErrArg
	}
	if fewer(len(s), n, 0) {
		return s, nil, api.ErrUnder
	}
	down := turned(s)
	return turned(down[n:]), down[:n], api.OK
}

// doubled is what Dup promises.
func doubled(s []api.Word, n int) ([]api.Word, api.Errno) {
	if !mayBe(s) || n < 1 {
		return s, api.ErrArg
	}
	if fewer(len(s), n, 0) {
		return s, api.ErrUnder
	}
	if len(s) == 1024 {
		return s, api.ErrOver
	}
	down := turned(s)
	return turned(append([]api.Word{down[n-1]}, down...)), api.OK
}

// swapped is what Swap promises.
func swapped(s []api.Word, n int) ([]api.Word, api.Errno) {
	if !mayBe(s) || n < 1 {
		return s, api.ErrArg
	}
	if fewer(len(s), n, 1) {
		return s, api.ErrUnder
	}
	var down []api.Word
	for i, w := range turned(s) {
		switch i {
		case 0:
			w = s[len(s)-1-n]
		case n:
			w = s[len(s)-1]
		}
		down = append(down, w)
	}
	return turned(down), api.OK
}

// few are as many words as can be read.
func few(l []api.Word) []api.Word { return l[:min(len(l), 20)] }

// expect holds the stack, and the error, that a call tells against the chapter's.
func expect(t *testing.T, call string, s []api.Word, n int, got []api.Word, e api.Errno, want []api.Word, f api.Errno) {
	t.Helper()
	if !slices.Equal(got, want) || e != f {
		t.Fatalf("%s of %d words, %d:\n%x (%d words), %d, not\n%x (%d words), %d", call, len(s), n, few(got), len(got), e, few(want), len(want), f)
	}
}

func expectPush(t *testing.T, s []api.Word, l ...api.Word) []api.Word {
	t.Helper()
	got, e := stack.Push(s, l...)
	want, f := pushed(s, l)
	expect(t, "Push", s, len(l), got, e, want, f)
	return got
}

func expectPop(t *testing.T, s []api.Word, n int) []api.Word {
	t.Helper()
	got, taken, e := stack.Pop(s, n)
	want, down, f := popped(s, n)
	expect(t, "Pop", s, n, got, e, want, f)
	expect(t, "Pop, what is taken,", s, n, taken, e, down, f)
	return got
}

func expectDup(t *testing.T, s []api.Word, n int) []api.Word {
	t.Helper()
	got, e := stack.Dup(s, n)
	want, f := doubled(s, n)
	expect(t, "Dup", s, n, got, e, want, f)
	return got
}

func expectSwap(t *testing.T, s []api.Word, n int) []api.Word {
	t.Helper()
	got, e := stack.Swap(s, n)
	want, f := swapped(s, n)
	expect(t, "Swap", s, n, got, e, want, f)
	return got
}

// expectNumber holds all calls with a number against the chapter.
func expectNumber(t *testing.T, s []api.Word, n int) {
	t.Helper()
	expectPop(t, s, n)
	expectDup(t, s, n)
	expectSwap(t, s, n)
}
