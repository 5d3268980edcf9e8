package table_test

import (
	"math/big"
	"slices"
	"testing"

	"railhead/api"
	"railhead/table"
)

// What follows says what the chapter says, one sentence behind the other, by maps and by numbers of another kind.

// numberOf is a word's number.
func numberOf(w api.Word) *big.Int {
	n := new(big.Int)
	for i := range w {
		n.Add(n, new(big.Int).Lsh(new(big.Int).SetUint64(w[i]), uint(64*i)))
	}
	return n
}

// mayChange is what Patch promises: of each key all those ahead are less, not only the one ahead.
func mayChange(l []api.Slot) bool {
	if len(l) > 1000 {
		return false
	}
	greatest := big.NewInt(-1)
	for _, s := range l {
		n := numberOf(s.Key)
		if n.Cmp(greatest) <= 0 {
			return false
		}
		greatest = n
	}
	return true
}

// mayBeKept is what Right promises.
func mayBeKept(l []api.Slot) bool {
	for _, s := range l {
		if numberOf(s.Value).Sign() == 0 {
			return false
		}
	}
	return mayChange(l)
}

// values are slots by their keys.
func values(l []api.Slot) map[api.Word]api.Word {
	m := map[api.Word]api.Word{}
	for _, s := range l {
		m[s.Key] = s.Value
	}
	return m
}

// inOrder are slots of a map, or what there is to say, if they are too many.
func inOrder(m map[api.Word]api.Word) ([]api.Slot, api.Errno) {
	if len(m) > 1000 {
		return nil, api.ErrLong
	}
	var l []api.Slot
	for key, value := range m {
		l = append(l, api.Slot{Key: key, Value: value})
	}
	slices.SortFunc(l, func(a, b api.Slot) int { return numberOf(a.Key).Cmp(numberOf(b.Key)) })
	return l, api.OK
}

// merged is what Merge promises.
func merged(l, patch []api.Slot) ([]api.Slot, api.Errno) {
	if !mayBeKept(l) || !mayChange(patch) {
		return nil, api.ErrArg
	}
	m := values(l)
	for key, value := range values(patch) {
		m[key] = value
		if value == (api.Word{}) {
			delete(m, key)
		}
	}
	return inOrder(m)
}

// differing is what Diff promises.
func differing(a, b []api.Slot) ([]api.Slot, api.Errno) {
	if !mayBeKept(a) || !mayBeKept(b) {
		return nil, api.ErrArg
	}
	was, is := values(a), values(b)
	m := map[api.Word]api.Word{}
	for _, s := range append(slices.Clone(a), b...) {
		if was[s.Key] != is[s.Key] {
			m[s.Key] = is[s.Key]
		}
	}
	return inOrder(m)
}

// chance is numbers that are the same ones each time.
type chance uint64

func (c *chance) below(n int) int {
	*c = *c*6364136223846793005 + 1442695040888963407
	return int(uint64(*c>>33) % uint64(n))
}

// key is one of some times so many; which part is great and which one is small is unlike from one to the other.
func (c *chance) key(many int) api.Word {
	var w api.Word
	w[c.below(4)] = uint64(c.below(many))
	w[c.below(4)] |= uint64(c.below(2)) << 63
	return w
}

// value is 0, or another one of a few.
func (c *chance) value() api.Word { return api.Word{uint64(c.below(2)), 0, uint64(c.below(2))} }

// patch is at most so many slots, some of which keep nothing.
func (c *chance) patch(many int) []api.Slot {
	m := map[api.Word]api.Word{}
	for range c.below(many + 1) {
		m[c.key(many)] = c.value()
	}
	l, _ := inOrder(m)
	return l
}

// right is at most so many slots that may be kept.
func (c *chance) right(many int) []api.Slot {
	return slices.DeleteFunc(c.patch(many), func(s api.Slot) bool { return s.Value == api.Word{} })
}

// all are all lists of at most so many of these slots.
func all(of []api.Slot, many int) [][]api.Slot {
	out := [][]api.Slot{nil}
	from := 0
	for range many {
		to := len(out)
		for _, l := range out[from:to] {
			for _, s := range of {
				out = append(out, append(slices.Clone(l), s))
			}
		}
		from = to
	}
	return out
}

// some are slots of each of these keys with each of these values.
func some(keys []api.Word, values ...uint64) []api.Slot {
	var out []api.Slot
	for _, key := range keys {
		for _, value := range values {
			out = append(out, api.Slot{Key: key, Value: api.Word{value}})
		}
	}
	return out
}

// expect holds a list and an error against those that are promised.
func expect(t *testing.T, what string, l []api.Slot, e api.Errno, want []api.Slot, f api.Errno) {
	t.Helper()
	if !slices.Equal(l, want) || e != f {
		t.Fatalf("%s: %v %d, not %v %d", what, short(l), e, short(want), f)
	}
}

// short is as much of a list as can be read.
func short(l []api.Slot) []api.Slot { return l[:min(len(l), 8)] }

// expectAsTold holds all that is asked of two lists against the chapter.
func expectAsTold(t *testing.T, a, b []api.Slot) {
	t.Helper()
	l, e := table.Merge(a, b)
	want, f := merged(a, b)
	expect(t, "Merge", l, e, want, f)
	l, e = table.Diff(a, b)
	want, f = differing(a, b)
	expect(t, "Diff", l, e, want, f)
	for _, s := range short(b) {
		l, e = table.Put(a, s.Key, s.Value)
		want, f = merged(a, []api.Slot{s})
		expect(t, "Put", l, e, want, f)
	}
}

// G1 to G4

func TestAllShortListsMayBeWhatTheChapterTells(t *testing.T) {
	kept := 0
	for _, l := range all(some(apart(), 0, 7), 4) {
		if table.Patch(l) != mayChange(l) || table.Right(l) != mayBeKept(l) {
			t.Fatalf("%v: %v %v", l, table.Patch(l), table.Right(l))
		}
		if table.Right(l) {
			kept++
		}
	}
	// 5 keys: none of them, 1, 2, 3 or 4.
	if kept != 1+5+10+10+5 {
		t.Error(kept)
	}
}

func TestAllPairsOfShortListsAreAsTold(t *testing.T) {
	lists := all(some(apart()[1:4], 0, 1, 2), 2)
	for _, a := range lists {
		for _, b := range lists {
			expectAsTold(t, a, b)
		}
	}
}

func TestMixedListsAreAsTold(t *testing.T) {
	c := chance(3)
	for many := range 40 {
		for range 10 {
			expectAsTold(t, c.right(many), c.patch(many))
			expectAsTold(t, c.right(many), c.right(many))
		}
	}
	for range 3 {
		expectAsTold(t, c.right(1000), c.patch(1000))
		expectAsTold(t, c.right(1000), c.right(1000))
	}
}

// G5

func TestMergeOfADiffIsTheOtherOne(t *testing.T) {
	c := chance(5)
	for many := range 100 {
		for range 10 {
			a, b := c.right(many), c.right(many)
			d, e := table.Diff(a, b)
			if !table.Patch(d) || e != api.OK {
				t.Fatalf("%v %v: %v %d", a, b, d, e)
			}
			l, e := table.Merge(a, d)
			expect(t, "Merge of a Diff", l, e, b, api.OK)
			// What is the same is not in the patch, and all that is in it is needed.
			for i := range d {
				if table.Get(a, d[i].Key) == table.Get(b, d[i].Key) {
					t.Fatalf("%v %v: %v", a, b, d)
				}
			}
		}
	}
}

func TestWhatPutPutGetGets(t *testing.T) {
	c := chance(9)
	for many := range 100 {
		a := c.right(many)
		for range 20 {
			key, value := c.key(many+1), c.value()
			l, e := table.Put(a, key, value)
			if !table.Right(l) || e != api.OK || table.Get(l, key) != value {
				t.Fatalf("%v %v %v: %v %d", a, key, value, l, e)
			}
			for _, s := range append(slices.Clone(a), l...) {
				if s.Key != key && table.Get(a, s.Key) != table.Get(l, s.Key) {
					t.Fatalf("%v %v %v: %v, at %v too", a, key, value, l, s.Key)
				}
			}
			other := c.key(many + 1)
			if other != key && table.Get(a, other) != table.Get(l, other) {
				t.Fatalf("%v %v %v: %v, at %v too", a, key, value, l, other)
			}
		}
	}
}

func TestMergeIsPutOfEach(t *testing.T) {
	c := chance(13)
	for many := range 150 {
		a, patch := c.right(many), c.patch(many)
		want := a
		for _, s := range patch {
			var e api.Errno
			if want, e = table.Put(want, s.Key, s.Value); e != api.OK {
				t.Fatal(e)
			}
		}
		l, e := table.Merge(a, patch)
		expect(t, "Merge", l, e, want, api.OK)
	}
}
