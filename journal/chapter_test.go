package journal_test

import (
	"fmt"
	"slices"
	"strconv"
	"strings"
	"testing"

	"railhead/api"
	"railhead/journal"
	"railhead/state"
)

// What follows says what the chapter says, one sentence behind the other, by chapter 8's Do of the whole state.

// tell is all that there is of a journal, as a text.
func tell(j api.Journal) string {
	var out []byte
	for _, x := range j.State {
		out = fmt.Appendf(out, "%x %d %q", x.At, x.Nonce, x.Code)
		out = tellWord(out, x.Balance)
		for _, slot := range x.Slots {
			out = tellWord(tellWord(out, slot.Key), slot.Value)
		}
		out = append(out, '\n')
	}
	for _, c := range j.Undo {
		out = append(out, tellChange(c)...)
	}
	return string(fmt.Append(out, j.Marks))
}

// tellWord does not go by fmt: there are many slots.
func tellWord(out []byte, w api.Word) []byte {
	for _, part := range w {
		out = strconv.AppendUint(append(out, ' '), part, 16)
	}
	return out
}

func tellChange(c api.Change) string {
	return fmt.Sprintf("%d at %x: %d %d %d %q\n", c.Kind, c.At, c.Key, c.Value, c.Nonce, c.Code)
}

// short is as much of a journal as can be read.
func short(j api.Journal) string {
	told := tell(j)
	return told[:min(len(told), 3000)]
}

// right is what Right promises.
func right(j api.Journal) bool {
	if !state.Right(j.State) || len(j.Undo) > 2000 || len(j.Marks) > 1100 {
		return false
	}
	for i, mark := range j.Marks {
		if i > 0 && mark < j.Marks[i-1] || mark < 0 || mark > len(j.Undo) {
			return false
		}
	}
	for i := len(j.Undo) - 1; i >= 0; i-- {
		s, _, e := state.Do(j.State, j.Undo[i])
		if e != api.OK {
			return false
		}
		j.State = s
	}
	return true
}

// done is what Do promises.
func done(j api.Journal, l []api.Change) (api.Journal, api.Errno) {
	if !right(j) {
		return j, api.ErrArg
	}
	out := api.Journal{State: j.State, Undo: slices.Clone(j.Undo), Marks: j.Marks}
	for _, c := range l {
		if len(out.Undo) == 2000 {
			return j, api.ErrLong
		}
		s, undo, e := state.Do(out.State, c)
		if e != api.OK {
			return j, e
		}
		out.State, out.Undo = s, append(out.Undo, undo)
	}
	return out, api.OK
}

// marked is what Mark promises.
func marked(j api.Journal) (api.Journal, int, api.Errno) {
	if !right(j) {
		return j, 0, api.ErrArg
	}
	if len(j.Marks) == 1100 {
		return j, 0, api.ErrLong
	}
	j.Marks = append(slices.Clone(j.Marks), len(j.Undo))
	return j, len(j.Marks) - 1, api.OK
}

// backed is what Back promises.
func backed(j api.Journal, mark int) (api.Journal, api.Errno) {
	out, e := kept(j, mark)
	if e != api.OK {
		return j, e
	}
	for len(out.Undo) > j.Marks[mark] {
		last := len(out.Undo) - 1
		out.State, _, _ = state.Do(out.State, out.Undo[last])
		out.Undo = out.Undo[:last]
	}
	return out, api.OK
}

// kept is what Keep promises.
func kept(j api.Journal, mark int) (api.Journal, api.Errno) {
	if !right(j) {
		return j, api.ErrArg
	}
	if mark < 0 || len(j.Marks) <= mark {
		return j, api.ErrNone
	}
	j.Marks = j.Marks[:mark]
	return j, api.OK
}

// expect holds an answer against the chapter's.
func expect(t *testing.T, what string, with any, from, j api.Journal, e api.Errno, want api.Journal, f api.Errno) {
	t.Helper()
	if tell(j) != tell(want) || e != f {
		t.Fatalf("%s\n%s %.2000v:\n%s %d, not\n%s %d", short(from), what, with, short(j), e, short(want), f)
	}
	if e == api.OK && !journal.Right(j) {
		t.Fatalf("%s\n%s %.2000v:\n%s: not right", short(from), what, with, short(j))
	}
}

func expectRight(t *testing.T, j api.Journal) {
	t.Helper()
	if want := right(j); journal.Right(j) != want {
		t.Fatalf("%s: not %v", short(j), want)
	}
}

func expectDo(t *testing.T, j api.Journal, l ...api.Change) api.Journal {
	t.Helper()
	out, e := journal.Do(j, l...)
	want, f := done(j, l)
	expect(t, "do", l, j, out, e, want, f)
	return out
}

func expectMark(t *testing.T, j api.Journal) api.Journal {
	t.Helper()
	out, place, e := journal.Mark(j)
	want, at, f := marked(j)
	expect(t, "mark", place, j, out, e, want, f)
	if place != at {
		t.Fatalf("%s\nmark: %d, not %d", short(j), place, at)
	}
	return out
}

func expectBack(t *testing.T, j api.Journal, mark int) api.Journal {
	t.Helper()
	out, e := journal.Back(j, mark)
	want, f := backed(j, mark)
	expect(t, "back", mark, j, out, e, want, f)
	return out
}

func expectKeep(t *testing.T, j api.Journal, mark int) api.Journal {
	t.Helper()
	out, e := journal.Keep(j, mark)
	want, f := kept(j, mark)
	expect(t, "keep", mark, j, out, e, want, f)
	return out
}

// listsOf are all lists of these, of at most so many.
func listsOf[T any](most int, of ...T) [][]T {
	out := [][]T{nil}
	for from := 0; most > 0; most-- {
		to := len(out)
		for _, l := range out[from:to] {
			for _, x := range of {
				out = append(out, append(slices.Clone(l), x))
			}
		}
		from = to
	}
	return out
}

// chance is numbers that are the same ones each time.
type chance uint64

func (c *chance) below(n int) int {
	*c = *c*6364136223846793005 + 1442695040888963407
	return int(uint64(*c>>33) % uint64(n))
}

// word is 0, or another one of some few.
func (c *chance) word() api.Word {
	var w api.Word
	w[c.below(4)] = uint64(c.below(3))
	return w
}

// at is one of at most so many addresses; which of their bytes tell them apart is unlike from one to the other.
func (c *chance) at(many int) api.Addr {
	i := c.below(many)
	var at api.Addr
	at[i%20] = byte(i)
	at[i%7] |= 128
	return at
}

// change is one of those that may be, but once in so many.
func (c *chance) change(many, wrong int) api.Change {
	x := api.Change{Kind: 1 + c.below(4), At: c.at(many), Key: c.word(), Value: c.word(), Nonce: c.below(3), Code: strings.Repeat("c", c.below(3))}
	if c.below(wrong) == 0 {
		x.Kind, x.Nonce = c.below(7)-1, 9007199254740993-c.below(2)*9007199254740994
	}
	return x
}

// state is accounts that may be a state.
func (c *chance) state(many int) []api.Account {
	var s []api.Account
	for range 3 * many {
		s, _, _ = state.Do(s, c.change(many, 1<<30))
	}
	return s
}

// journal is one that may be, if none of what undoes its changes is wrong: no such change was ever done.
func (c *chance) journal(many, wrong int) api.Journal {
	j := api.Journal{State: c.state(many)}
	for range c.below(12) {
		j.Undo = append(j.Undo, c.change(many, wrong))
	}
	for range c.below(6) {
		j.Marks = append(j.Marks, c.below(len(j.Undo)+1))
	}
	slices.Sort(j.Marks)
	return j
}

// I1 to I4

func TestAllShortJournalsAreAsTold(t *testing.T) {
	nonce := func(at byte, nonce int) api.Change {
		return api.Change{Kind: api.SetNonce, At: api.Addr{at}, Nonce: nonce}
	}
	one, two := api.Account{At: api.Addr{1}, Nonce: 1}, api.Account{At: api.Addr{2}, Balance: api.Word{7}}
	changes := listsOf(2, nonce(1, 0), nonce(1, 2), nonce(2, 1), nonce(1, -1), api.Change{})
	are := 0
	for _, s := range [][]api.Account{nil, {one}, {two}, {one, two}, {two, one}, {{}}} {
		for _, undo := range changes {
			for _, marks := range listsOf(2, -1, 0, 1, 2, 3) {
				j := api.Journal{State: s, Undo: undo, Marks: marks}
				expectRight(t, j)
				expectMark(t, j)
				for mark := -2; mark < 5; mark++ {
					expectBack(t, j, mark)
					expectKeep(t, j, mark)
				}
				if !journal.Right(j) {
					expectDo(t, j)
					continue
				}
				are++
				for _, l := range changes {
					expectDo(t, j, l...)
				}
			}
		}
	}
	// 4 states, and 1, 3 or 9 lists of 0, 1 or 2 changes that can be done; of at most 2 marks from 0 to that number, which do not fall, there are 3, 6 or 10 lists.
	if want := 4 * (1*3 + 3*6 + 9*10); are != want {
		t.Error(are, want)
	}
}

func TestMixedJournalsAreAsTold(t *testing.T) {
	c := chance(9)
	are := 0
	for i := range 800 {
		j := c.journal(1+i%40, 40)
		if i%5 == 0 && len(j.Marks) > 1 {
			j.Marks[c.below(len(j.Marks))] = c.below(len(j.Undo)+4) - 2
		}
		expectRight(t, j)
		expectMark(t, j)
		mark := c.below(len(j.Marks)+2) - 1
		expectBack(t, j, mark)
		expectKeep(t, j, mark)
		expectDo(t, j, c.change(1+i%40, 20), c.change(1+i%40, 20), c.change(1+i%40, 20))
		if journal.Right(j) {
			are++
		}
	}
	if are < 400 || are > 700 {
		t.Error(are)
	}
}

func TestWhatIsDoneMarkedKeptAndUndoneIsAsTold(t *testing.T) {
	c := chance(3)
	for i := range 30 {
		j, e := journal.Open(c.state(1 + i))
		if e != api.OK {
			t.Fatal(short(j), e)
		}
		for range 60 {
			switch c.below(6) {
			case 0, 1:
				j = expectMark(t, j)
			case 2:
				j = expectBack(t, j, c.below(len(j.Marks)+2)-1)
			case 3:
				j = expectKeep(t, j, c.below(len(j.Marks)+2)-1)
			default:
				var l []api.Change
				for range c.below(5) {
					l = append(l, c.change(2+i, 30))
				}
				j = expectDo(t, j, l...)
			}
		}
	}
}

// I5

func TestBackToAMarkIsWhatThereWasThen(t *testing.T) {
	c := chance(5)
	backs := 0
	for i := range 40 {
		j, _ := journal.Open(c.state(1 + i))
		// How it was when each of its marks was set.
		var was []string
		for range 150 {
			mark := c.below(len(was) + 1)
			switch c.below(9) {
			case 0, 1:
				was = append(was, tell(j))
				j, mark, _ = journal.Mark(j)
				if mark != len(was)-1 {
					t.Fatal(mark, len(was))
				}
			case 2:
				if mark == len(was) {
					continue
				}
				j, _ = journal.Back(j, mark)
				if tell(j) != was[mark] {
					t.Fatalf("%s, not\n%s", short(j), was[mark])
				}
				was = was[:mark]
				backs++
			case 3:
				if c.below(3) == 0 && mark < len(was) {
					j, _ = journal.Keep(j, mark)
					was = was[:mark]
				}
			default:
				j, _ = journal.Do(j, c.change(2+i, 30), c.change(2+i, 30))
			}
		}
		// And each of those that are left.
		for mark := range was {
			if back, e := journal.Back(j, mark); tell(back) != was[mark] || e != api.OK {
				t.Fatalf("%s %d, not\n%s", short(back), e, was[mark])
			}
		}
	}
	if backs < 300 {
		t.Error(backs)
	}
}
