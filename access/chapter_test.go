package access_test

import (
	"fmt"
	"maps"
	"slices"
	"strings"
	"testing"

	"railhead/access"
	"railhead/api"
)

// What follows says what the chapter says, one sentence behind the other, by texts, maps and loops.

// tell is a key as a text; texts of that kind are in the order of their keys.
func tell(k api.Key) string {
	kind := "account"
	if k.Slot {
		kind = "slot"
	}
	return fmt.Sprintf("%x %s %016x %016x %016x %016x", k.At, kind, k.Key[3], k.Key[2], k.Key[1], k.Key[0])
}

// tellAll is sets as a text.
func tellAll(s api.Sets) string {
	var lines []string
	for _, k := range s.Reads {
		lines = append(lines, "reads "+tell(k))
	}
	for _, k := range s.Writes {
		lines = append(lines, "writes "+tell(k))
	}
	return strings.Join(lines, "\n")
}

// short is as much of sets as can be read.
func short(s api.Sets) string {
	told := tellAll(s)
	return told[:min(len(told), 1500)]
}

// mayBe is what the chapter's words tell of a key.
func mayBe(k api.Key) bool { return k.Slot || k.Key == api.Word{} }

// isSet is what Right promises of each list: of each key all those ahead are less, not only the one ahead.
func isSet(l []api.Key) bool {
	greatest := ""
	for _, k := range l {
		if tell(k) <= greatest || !mayBe(k) {
			return false
		}
		greatest = tell(k)
	}
	return len(l) <= 200
}

// right is what Right promises.
func right(s api.Sets) bool { return isSet(s.Reads) && isSet(s.Writes) }

// setOf are the keys of a list, in order, each once.
func setOf(l []api.Key) []api.Key {
	m := map[string]api.Key{}
	for _, k := range l {
		m[tell(k)] = k
	}
	var out []api.Key
	for _, told := range slices.Sorted(maps.Keys(m)) {
		out = append(out, m[told])
	}
	return out
}

// made is what Make promises.
func made(reads, writes []api.Key) (api.Sets, api.Errno) {
	for _, k := range slices.Concat(reads, writes) {
		if !mayBe(k) {
			return api.Sets{}, api.ErrArg
		}
	}
	s := api.Sets{Reads: setOf(reads), Writes: setOf(writes)}
	if len(s.Reads) > 200 || len(s.Writes) > 200 {
		return api.Sets{}, api.ErrLong
	}
	return s, api.OK
}

// joined is what Join promises.
func joined(a, b api.Sets) (api.Sets, api.Errno) {
	if !right(a) || !right(b) {
		return api.Sets{}, api.ErrArg
	}
	return made(slices.Concat(a.Reads, b.Reads), slices.Concat(a.Writes, b.Writes))
}

// isIn tells whether a key is in a list.
func isIn(l []api.Key, k api.Key) bool {
	for _, other := range l {
		if other == k {
			return true
		}
	}
	return false
}

// may is what May promises.
func may(s api.Sets, k api.Key, write bool) bool {
	if write {
		return isIn(s.Writes, k)
	}
	return isIn(s.Writes, k) || isIn(s.Reads, k)
}

// clash is what Clash promises.
func clash(a, b api.Sets) bool {
	for _, k := range a.Writes {
		if isIn(b.Reads, k) || isIn(b.Writes, k) {
			return true
		}
	}
	for _, k := range b.Writes {
		if isIn(a.Reads, k) || isIn(a.Writes, k) {
			return true
		}
	}
	return false
}

// listsOf are all lists of these, of at most so many.
func listsOf(most int, of ...api.Key) [][]api.Key {
	out := [][]api.Key{nil}
	for from := 0; most > 0; most-- {
		to := len(out)
		for _, l := range out[from:to] {
			for _, k := range of {
				out = append(out, append(slices.Clone(l), k))
			}
		}
		from = to
	}
	return out
}

// setsOf are all sets of two lists of these.
func setsOf(lists [][]api.Key) []api.Sets {
	var out []api.Sets
	for _, reads := range lists {
		for _, writes := range lists {
			out = append(out, api.Sets{Reads: reads, Writes: writes})
		}
	}
	return out
}

// chance is numbers that are the same ones each time.
type chance uint64

func (c *chance) below(n int) int {
	*c = *c*6364136223846793005 + 1442695040888963407
	return int(uint64(*c>>33) % uint64(n))
}

// key is one of some times so many, that may be, but once in so many; which bytes and parts tell them apart is unlike from one to the other.
func (c *chance) key(many, wrong int) api.Key {
	k := api.Key{Slot: c.below(3) > 0}
	k.At[c.below(20)] = byte(c.below(2))
	if k.Slot || c.below(wrong) == 0 {
		k.Key[c.below(4)] = uint64(c.below(many))
		k.Key[c.below(4)] |= uint64(c.below(2)) << 63
	}
	return k
}

// keys are at most so many.
func (c *chance) keys(many, wrong int) []api.Key {
	var out []api.Key
	for range c.below(many + 1) {
		out = append(out, c.key(many, wrong))
	}
	return out
}

// sets are right ones of at most so many keys each, or, if they are wild, any lists of keys.
func (c *chance) sets(many int, wild bool) api.Sets {
	if wild {
		return api.Sets{Reads: c.keys(many, 9), Writes: c.keys(many, 9)}
	}
	return api.Sets{Reads: setOf(c.keys(many, 1<<30)), Writes: setOf(c.keys(many, 1<<30))}
}

// expect holds sets and an error against those that are promised.
func expect(t *testing.T, what, from string, s api.Sets, e api.Errno, want api.Sets, f api.Errno) {
	t.Helper()
	if tellAll(s) != tellAll(want) || e != f {
		t.Fatalf("%s of\n%.1500s\nis\n%s\n%d, not\n%s\n%d", what, from, short(s), e, short(want), f)
	}
	if !access.Right(s) {
		t.Fatalf("%s of\n%.1500s\nis not right:\n%s", what, from, short(s))
	}
}

// expectOne holds all that is asked of one pair of lists against the chapter.
func expectOne(t *testing.T, s api.Sets, keys []api.Key) {
	t.Helper()
	if want := right(s); access.Right(s) != want {
		t.Fatalf("%s\nright: not %v", short(s), want)
	}
	got, e := access.Make(s.Reads, s.Writes)
	want, f := made(s.Reads, s.Writes)
	expect(t, "Make", tellAll(s), got, e, want, f)
	for _, k := range keys {
		for _, write := range []bool{false, true} {
			if want := may(s, k, write); access.May(s, k, write) != want {
				t.Fatalf("%s\n%s may be written to %v: not %v", short(s), tell(k), write, want)
			}
		}
	}
}

// expectTwo holds all that is asked of two sets against the chapter.
func expectTwo(t *testing.T, a, b api.Sets) {
	t.Helper()
	if want := clash(a, b); access.Clash(a, b) != want || access.Clash(b, a) != want {
		t.Fatalf("%s\nand\n%s\nclash: not %v", short(a), short(b), want)
	}
	s, e := access.Join(a, b)
	want, f := joined(a, b)
	expect(t, "Join", tellAll(a)+"\nand\n"+tellAll(b), s, e, want, f)
}

// J1

func TestOrderIsThatOfTexts(t *testing.T) {
	c := chance(1)
	keys := append(apart(), wrong()...)
	for range 300 {
		keys = append(keys, c.key(3, 2))
	}
	for _, a := range keys {
		for _, b := range keys {
			if want := strings.Compare(tell(a), tell(b)); access.Order(a, b) != want {
				t.Fatalf("%s, %s: %d, not %d", tell(a), tell(b), access.Order(a, b), want)
			}
		}
	}
}

// J2 to J5

func TestAllShortSetsAreAsTold(t *testing.T) {
	keys := []api.Key{account(1), slot(1, 0), slot(1, 5), account(2), {At: api.Addr{1}, Key: api.Word{5}}}
	are := 0
	for _, s := range setsOf(listsOf(3, keys...)) {
		expectOne(t, s, keys)
		if access.Right(s) {
			are++
		}
	}
	// Of 4 keys that may be: none, 1, 2 or 3 of them, in each list.
	if want := (1 + 4 + 6 + 4) * (1 + 4 + 6 + 4); are != want {
		t.Error(are, want)
	}
}

func TestAllPairsOfShortSetsAreAsTold(t *testing.T) {
	sets := setsOf(listsOf(2, account(1), slot(1, 0), slot(1, 5)))
	sets = append(sets, setsOf(listsOf(1, account(2), slot(1, 0), api.Key{At: api.Addr{1}, Key: api.Word{5}}))...)
	for _, a := range sets {
		for _, b := range sets {
			expectTwo(t, a, b)
		}
	}
}

func TestMixedSetsAreAsTold(t *testing.T) {
	c := chance(7)
	clashes := 0
	for many := range 60 {
		for i := range 10 {
			a, b := c.sets(many, i%3 == 0), c.sets(many, i%4 == 0)
			expectOne(t, a, append(b.Reads, c.key(many+1, 2)))
			expectTwo(t, a, b)
			// Few keys are in each other's way seldom.
			x, y := c.key(many+1, 3), c.key(many+1, 3)
			few := api.Sets{Reads: []api.Key{x}, Writes: []api.Key{y}}
			expectTwo(t, a, few)
			if access.Clash(a, few) {
				clashes++
			}
		}
	}
	if clashes < 100 || clashes > 500 {
		t.Error(clashes)
	}
}

func TestManyMixedKeysAreAsTold(t *testing.T) {
	c := chance(11)
	ends := map[api.Errno]int{}
	for range 60 {
		reads, writes := c.keys(260, 2000), c.keys(260, 2000)
		s, e := access.Make(reads, writes)
		want, f := made(reads, writes)
		expect(t, "Make", "many", s, e, want, f)
		ends[e]++
		a, b := c.sets(200, false), c.sets(200, false)
		s, e = access.Join(a, b)
		want, f = joined(a, b)
		expect(t, "Join", "many", s, e, want, f)
		ends[e]++
	}
	if ends[api.OK] < 20 || ends[api.ErrLong] < 20 || ends[api.ErrArg] < 3 {
		t.Error(ends)
	}
}

// J6

func TestSetsClashOneWayAsTheOther(t *testing.T) {
	c := chance(13)
	for i := range 400 {
		a, b := c.sets(i%30, i%2 == 0), c.sets(i%20, i%3 == 0)
		if access.Clash(a, b) != access.Clash(b, a) {
			t.Fatalf("%s\nand\n%s", short(a), short(b))
		}
	}
}

func TestWhatJoinsIsInTheWayOfAllThatOneIs(t *testing.T) {
	c := chance(17)
	clashes := 0
	for i := range 600 {
		a, b, other := c.sets(i%12, false), c.sets(i%10, false), c.sets(i%8, i%2 == 0)
		s, e := access.Join(a, b)
		want := access.Clash(a, other) || access.Clash(b, other)
		if e != api.OK || access.Clash(s, other) != want || access.Clash(other, s) != want {
			t.Fatalf("%s\nand\n%s\nwith\n%s\nclash: not %v %d", short(a), short(b), short(other), want, e)
		}
		if want {
			clashes++
		}
	}
	if clashes < 100 || clashes > 500 {
		t.Error(clashes)
	}
}

func TestWithoutAClashNothingWrittenIsRead(t *testing.T) {
	c := chance(19)
	without := 0
	for i := range 600 {
		a, b := c.sets(i%12, i%2 == 0), c.sets(i%10, i%3 == 0)
		if access.Clash(a, b) {
			continue
		}
		without++
		for _, k := range slices.Concat(a.Reads, a.Writes, b.Reads, b.Writes) {
			if access.May(a, k, true) && access.May(b, k, false) || access.May(b, k, true) && access.May(a, k, false) {
				t.Fatalf("%s\nand\n%s: %s", short(a), short(b), tell(k))
			}
		}
	}
	if without < 100 {
		t.Error(without)
	}
}
