package access_test

import (
	"slices"
	"testing"

	"railhead/access"
	"railhead/api"
	"railhead/word"
)

const most = 1<<64 - 1

func account(at byte) api.Key { return api.Key{At: api.Addr{at}} }

func slot(at byte, n int) api.Key {
	return api.Key{At: api.Addr{at}, Slot: true, Key: word.Of(n)}
}

// row are so many slots: the keys begin at a number, and each is so much more than the one ahead.
func row(many, first, step int) []api.Key {
	var out []api.Key
	for i := range many {
		out = append(out, slot(1, first+i*step))
	}
	return out
}

// apart are keys in order; what tells it stands at all places, and what comes behind it tells the other way round.
func apart() []api.Key {
	last := api.Addr{19: 1}
	return []api.Key{
		{},
		{Slot: true},
		{Slot: true, Key: api.Word{most}},
		{Slot: true, Key: api.Word{0, most}},
		{Slot: true, Key: api.Word{5, 0, 7}},
		{Slot: true, Key: api.Word{4, 0, 7, 1}},
		{Slot: true, Key: api.Word{most, most, most, most}},
		{At: last},
		{At: last, Slot: true},
		{At: api.Addr{0, 1}},
		{At: api.Addr{0, 128, 255}, Slot: true, Key: api.Word{7}},
		{At: api.Addr{0, 255}},
		{At: api.Addr{1}},
		{At: api.Addr{127, 255}, Slot: true, Key: api.Word{7}},
		{At: api.Addr{128}, Slot: true},
		{At: api.Addr{255}},
	}
}

// wrong are keys that may not be: accounts that have a Key, in each of its parts.
func wrong() []api.Key {
	return []api.Key{{Key: api.Word{1}}, {Key: api.Word{0, 1}}, {Key: api.Word{0, 0, 1}}, {Key: api.Word{0, 0, 0, 1 << 63}}, {At: api.Addr{1}, Key: api.Word{2}}, {At: api.Addr{255}, Key: api.Word{most, most, most, most}}}
}

// with is a list with another key at a place.
func with(l []api.Key, place int, k api.Key) []api.Key {
	out := slices.Clone(l)
	out[place] = k
	return out
}

// turned is a list, the last one first.
func turned(l []api.Key) []api.Key {
	out := slices.Clone(l)
	slices.Reverse(out)
	return out
}

// same tells whether sets have the same keys, in the same order.
func same(a, b api.Sets) bool {
	return slices.Equal(a.Reads, b.Reads) && slices.Equal(a.Writes, b.Writes)
}

// bothWays are sets of which one of the two lists is that one.
func bothWays(l []api.Key) []api.Sets {
	other := []api.Key{account(7)}
	return []api.Sets{{Reads: l}, {Writes: l}, {Reads: l, Writes: other}, {Reads: other, Writes: l}, {Reads: l, Writes: l}}
}

// J1

func TestOrderOfKeysThatAreApart(t *testing.T) {
	keys := apart()
	for i, a := range keys {
		for k, b := range keys {
			want := 0
			if i < k {
				want = -1
			}
			if i > k {
				want = 1
			}
			if got := access.Order(a, b); got != want {
				t.Error(i, k, got)
			}
		}
	}
}

func TestEachByteOfAnAddressTellsTheOrder(t *testing.T) {
	for place := range 20 {
		less, more := api.Key{Slot: true, Key: api.Word{9}}, api.Key{}
		less.At[place], more.At[place] = 127, 128
		for behind := place + 1; behind < 20; behind++ {
			less.At[behind] = 255
		}
		if access.Order(less, more) != -1 || access.Order(more, less) != 1 {
			t.Error(place)
		}
	}
}

func TestOrderOfKeysThatMayNotBe(t *testing.T) {
	nine, eight := api.Key{Key: word.Of(9)}, api.Key{Key: word.Of(8)}
	if access.Order(eight, nine) != -1 || access.Order(nine, eight) != 1 || access.Order(nine, nine) != 0 {
		t.Error("an account's Key counts")
	}
	if access.Order(api.Key{}, eight) != -1 || access.Order(eight, api.Key{}) != 1 {
		t.Error("none is ahead of one")
	}
	if access.Order(nine, api.Key{Slot: true}) != -1 || access.Order(api.Key{Slot: true}, nine) != 1 {
		t.Error("the account is ahead of its slots")
	}
}

// J2

func TestNoKeysAreRight(t *testing.T) {
	for _, l := range [][]api.Key{nil, {}, row(9, 0, 0)[:0]} {
		if !access.Right(api.Sets{Reads: l, Writes: l}) {
			t.Error(len(l))
		}
	}
}

func TestKeysOfAllKindsAreRight(t *testing.T) {
	keys := apart()
	for i := range keys {
		for k := i; k <= len(keys); k++ {
			if !access.Right(api.Sets{Reads: keys[i:k]}) || !access.Right(api.Sets{Writes: keys[i:k]}) || !access.Right(api.Sets{Reads: keys[i:k], Writes: keys}) {
				t.Error(i, k)
			}
		}
	}
}

func TestHowManyKeysAreRight(t *testing.T) {
	for many, want := range map[int]bool{1: true, 199: true, 200: true, 201: false, 400: false, 5000: false} {
		for i, s := range bothWays(row(many, 0, 7)) {
			if access.Right(s) != want {
				t.Error(many, i)
			}
		}
	}
	// Each list counts for itself.
	if s := (api.Sets{Reads: row(200, 0, 1), Writes: row(200, 900, 1)}); !access.Right(s) {
		t.Error("200 of each")
	}
}

func TestKeysThatDoNotRise(t *testing.T) {
	l := row(30, 10, 2)
	// A wrong place is found wherever it is.
	for place := range l {
		for i := range bothWays(l) {
			greater := bothWays(with(l, place, slot(1, 500)))[i]
			less := bothWays(with(l, place, slot(1, 0)))[i]
			if access.Right(greater) != (place == 29) || access.Right(less) != (place == 0) {
				t.Error(place, i)
			}
			if place > 0 && access.Right(bothWays(with(l, place, l[place-1]))[i]) {
				t.Error("twice", place, i)
			}
		}
	}
	for i, s := range bothWays(turned(apart())) {
		if access.Right(s) {
			t.Error("turned", i)
		}
	}
}

func TestKeysThatMayNotBeAreNotRight(t *testing.T) {
	for n, k := range wrong() {
		for i, s := range bothWays([]api.Key{k}) {
			if access.Right(s) {
				t.Error(n, i)
			}
		}
	}
	l := []api.Key{account(1), account(2), account(3), account(4)}
	for place := range l {
		for i, s := range bothWays(with(l, place, api.Key{At: l[place].At, Key: word.Of(1)})) {
			if access.Right(s) {
				t.Error("at", place, i)
			}
		}
	}
}

// J3

func TestMakeOfKeysInAnyOrder(t *testing.T) {
	keys := apart()
	for i := range keys {
		mixed := slices.Concat(keys[i:], turned(keys), keys[:i], keys[i:])
		for n, x := range []struct {
			reads, writes []api.Key
			want          api.Sets
		}{
			{mixed, mixed, api.Sets{Reads: keys, Writes: keys}},
			{mixed, nil, api.Sets{Reads: keys}},
			{nil, mixed, api.Sets{Writes: keys}},
			{turned(keys[i:]), mixed, api.Sets{Reads: keys[i:], Writes: keys}},
			{turned(keys[:i]), turned(keys[i:]), api.Sets{Reads: keys[:i], Writes: keys[i:]}},
			{keys[:i], keys[i:], api.Sets{Reads: keys[:i], Writes: keys[i:]}},
		} {
			if s, e := access.Make(x.reads, x.writes); !same(s, x.want) || e != api.OK || !access.Right(s) {
				t.Error(i, n, e)
			}
		}
	}
	if s, e := access.Make(nil, nil); !same(s, api.Sets{}) || e != api.OK {
		t.Error(s, e)
	}
}

func TestMakeOfHowMany(t *testing.T) {
	for _, many := range []int{199, 200, 201, 1000} {
		want, f := row(many, 0, 3), api.OK
		if many > 200 {
			want, f = nil, api.ErrLong
		}
		for n, l := range [][]api.Key{row(many, 0, 3), turned(row(many, 0, 3)), slices.Concat(row(many, 0, 3), row(many, 0, 3), turned(row(many, 0, 3)))} {
			s, e := access.Make(l, nil)
			if !same(s, api.Sets{Reads: want}) || e != f {
				t.Error("reads", many, n, len(s.Reads), e)
			}
			s, e = access.Make(nil, l)
			if !same(s, api.Sets{Writes: want}) || e != f {
				t.Error("writes", many, n, len(s.Writes), e)
			}
		}
	}
	// Each list counts for itself, and nothing is told of the other one, if one is too long.
	if s, e := access.Make(row(200, 0, 1), row(200, 900, 1)); !same(s, api.Sets{Reads: row(200, 0, 1), Writes: row(200, 900, 1)}) || e != api.OK {
		t.Error("200 of each", e)
	}
	if s, e := access.Make(row(201, 0, 1), row(5, 0, 1)); !same(s, api.Sets{}) || e != api.ErrLong {
		t.Error("reads", s, e)
	}
	if s, e := access.Make(row(5, 0, 1), row(201, 0, 1)); !same(s, api.Sets{}) || e != api.ErrLong {
		t.Error("writes", s, e)
	}
}

func TestMakeOfKeysThatMayNotBe(t *testing.T) {
	for _, many := range []int{1, 20, 200, 201, 500} {
		l := row(many, 0, 1)
		for _, k := range wrong() {
			for _, place := range []int{0, many / 2, many - 1} {
				for i, s := range bothWays(with(l, place, k)) {
					if got, e := access.Make(s.Reads, s.Writes); !same(got, api.Sets{}) || e != api.ErrArg {
						t.Error(many, place, i, e)
					}
				}
			}
		}
	}
	// What may not be is told ahead of what is too long, in whichever list each is.
	for i, k := range wrong() {
		if _, e := access.Make(row(201, 0, 1), []api.Key{k}); e != api.ErrArg {
			t.Error(i, e)
		}
		if _, e := access.Make([]api.Key{k}, row(201, 0, 1)); e != api.ErrArg {
			t.Error(i, e)
		}
	}
}

func TestJoin(t *testing.T) {
	k := apart()
	for i, x := range []struct{ a, b, want api.Sets }{
		{api.Sets{}, api.Sets{}, api.Sets{}},
		{api.Sets{Reads: k[:3], Writes: k[3:5]}, api.Sets{}, api.Sets{Reads: k[:3], Writes: k[3:5]}},
		{api.Sets{Reads: k[:3], Writes: k[3:5]}, api.Sets{Reads: k[:3], Writes: k[3:5]}, api.Sets{Reads: k[:3], Writes: k[3:5]}},
		{api.Sets{Reads: k[:3], Writes: k[5:]}, api.Sets{Reads: k[2:6], Writes: k[:1]}, api.Sets{Reads: k[:6], Writes: slices.Concat(k[:1], k[5:])}},
		{api.Sets{Reads: k[:3]}, api.Sets{Writes: k[1:6]}, api.Sets{Reads: k[:3], Writes: k[1:6]}},
		{api.Sets{Reads: row(100, 0, 2)}, api.Sets{Reads: row(100, 1, 2)}, api.Sets{Reads: row(200, 0, 1)}},
		{api.Sets{Writes: row(150, 0, 1)}, api.Sets{Writes: row(150, 50, 1)}, api.Sets{Writes: row(200, 0, 1)}},
		{api.Sets{Reads: row(200, 0, 1), Writes: row(200, 5, 1)}, api.Sets{Reads: row(200, 0, 1), Writes: row(200, 5, 1)}, api.Sets{Reads: row(200, 0, 1), Writes: row(200, 5, 1)}},
	} {
		s, e := access.Join(x.a, x.b)
		turn, f := access.Join(x.b, x.a)
		if !same(s, x.want) || !same(turn, x.want) || e != api.OK || f != api.OK {
			t.Error(i, e, f)
		}
	}
}

func TestJoinOfTooMany(t *testing.T) {
	all, one := row(200, 0, 1), []api.Key{account(1)}
	for i, x := range []struct{ a, b api.Sets }{
		{api.Sets{Reads: all}, api.Sets{Reads: one}},
		{api.Sets{Writes: all}, api.Sets{Writes: one}},
		{api.Sets{Reads: row(101, 0, 2)}, api.Sets{Reads: row(100, 1, 2)}},
		{api.Sets{Reads: one, Writes: all}, api.Sets{Reads: one, Writes: one}},
		{api.Sets{Reads: all, Writes: all}, api.Sets{Reads: row(200, 500, 1), Writes: row(200, 500, 1)}},
	} {
		s, e := access.Join(x.a, x.b)
		turn, f := access.Join(x.b, x.a)
		if !same(s, api.Sets{}) || !same(turn, api.Sets{}) || e != api.ErrLong || f != api.ErrLong {
			t.Error(i, e, f)
		}
	}
}

func TestJoinOfWhatIsNotRight(t *testing.T) {
	lists := [][]api.Key{row(201, 0, 1), turned(row(2, 0, 1)), row(2, 5, 0), turned(apart())}
	for _, k := range wrong() {
		lists = append(lists, []api.Key{k})
	}
	// It is told ahead of what is too long.
	right := []api.Sets{{}, {Reads: row(5, 0, 1), Writes: row(5, 0, 1)}, {Reads: row(200, 900, 1), Writes: row(200, 900, 1)}}
	for n, l := range lists {
		for i, s := range bothWays(l) {
			for k, other := range append(right, s) {
				a, e := access.Join(s, other)
				b, f := access.Join(other, s)
				if !same(a, api.Sets{}) || !same(b, api.Sets{}) || e != api.ErrArg || f != api.ErrArg {
					t.Error(n, i, k, e, f)
				}
			}
		}
	}
}

// J4

func TestMay(t *testing.T) {
	k := apart()
	s := api.Sets{Reads: k[:6], Writes: k[4:9]}
	for i := range k {
		write := i >= 4 && i < 9
		if access.May(s, k[i], true) != write || access.May(s, k[i], false) != (write || i < 6) {
			t.Error(i)
		}
	}
	for i := range k {
		if access.May(api.Sets{}, k[i], false) || access.May(api.Sets{}, k[i], true) {
			t.Error("of none", i)
		}
	}
}

// All of a key counts: no account is one of its slots, and no slot is another one.
func TestMayOfKeysThatAreAlike(t *testing.T) {
	s := api.Sets{Reads: []api.Key{account(1)}, Writes: []api.Key{slot(2, 0)}}
	for _, k := range []api.Key{slot(1, 0), account(2), slot(2, 1), {At: api.Addr{2, 19: 1}, Slot: true}, {At: api.Addr{1}, Key: word.Of(1)}, {At: api.Addr{2}, Slot: true, Key: api.Word{0, 0, 0, 1}}} {
		if access.May(s, k, false) || access.May(s, k, true) {
			t.Error(tell(k))
		}
	}
	if !access.May(s, account(1), false) || access.May(s, account(1), true) || !access.May(s, slot(2, 0), false) || !access.May(s, slot(2, 0), true) {
		t.Error("of themselves")
	}
}

func TestMayOfSetsThatAreNotRight(t *testing.T) {
	for n, l := range [][]api.Key{turned(apart()), slices.Concat(apart(), apart()), wrong(), turned(row(1000, 0, 1))} {
		for i, k := range l {
			reads, writes := api.Sets{Reads: l}, api.Sets{Writes: l}
			if !access.May(reads, k, false) || access.May(reads, k, true) || !access.May(writes, k, false) || !access.May(writes, k, true) {
				t.Error(n, i)
			}
		}
		if k := slot(9, 9); access.May(api.Sets{Reads: l, Writes: l}, k, false) || access.May(api.Sets{Reads: l, Writes: l}, k, true) {
			t.Error(n)
		}
	}
}

// J5

func TestTheChaptersExample(t *testing.T) {
	of := []api.Key{slot(1, 0)}
	if a, b := (api.Sets{Writes: of}), (api.Sets{Reads: of}); !access.Clash(a, b) || !access.Clash(b, a) || access.Clash(b, b) {
		t.Error("one writes what the other one reads; both read it")
	}
}

// One key is in both, wherever it stands: at the beginning, in between, in the end, behind those of the other one.
func TestClashOfOneKey(t *testing.T) {
	for place := range 40 {
		for other := range 40 {
			x := with(row(40, 0, 2), place, slot(2, 9))
			y := with(row(40, 1, 2), other, slot(2, 9))
			z := row(40, 401, 2)
			for i, s := range []struct {
				a, b api.Sets
				want bool
			}{
				{api.Sets{Writes: x}, api.Sets{Writes: y}, true},
				{api.Sets{Writes: x}, api.Sets{Reads: y}, true},
				{api.Sets{Writes: x}, api.Sets{Reads: y, Writes: z}, true},
				{api.Sets{Reads: x, Writes: z}, api.Sets{Reads: x, Writes: y}, true},
				{api.Sets{Reads: x}, api.Sets{Reads: y}, false},
				{api.Sets{Reads: x}, api.Sets{Reads: y, Writes: z}, false},
				{api.Sets{Writes: x}, api.Sets{Writes: z}, false},
				{api.Sets{Reads: x, Writes: x}, api.Sets{}, false},
			} {
				if access.Clash(s.a, s.b) != s.want || access.Clash(s.b, s.a) != s.want {
					t.Fatal(place, other, i)
				}
			}
		}
	}
}

// What one reads and writes itself is in no other one's way.
func TestClashOfWhatOneTouchesAlone(t *testing.T) {
	a := api.Sets{Reads: row(9, 0, 1), Writes: row(9, 0, 1)}
	b := api.Sets{Reads: row(9, 50, 1), Writes: row(9, 50, 1)}
	if access.Clash(a, b) || access.Clash(a, api.Sets{}) || access.Clash(api.Sets{}, api.Sets{}) {
		t.Error("they do not meet")
	}
	if !access.Clash(a, a) {
		t.Error("the same ones are in each other's way")
	}
}

// An account is not its slots: who writes the one is not in the way of who reads the other.
func TestClashOfKeysThatAreAlike(t *testing.T) {
	alike := []api.Key{account(1), slot(1, 0), slot(1, 1), {At: api.Addr{1}, Key: word.Of(1)}, {At: api.Addr{1, 19: 1}}, {At: api.Addr{1}, Slot: true, Key: api.Word{0, 0, 0, 1}}}
	for i, x := range alike {
		for k, y := range alike {
			a, b := api.Sets{Writes: []api.Key{x}}, api.Sets{Reads: []api.Key{y}}
			if access.Clash(a, b) != (i == k) || access.Clash(b, a) != (i == k) {
				t.Error(i, k)
			}
		}
	}
}

// Sets that are not right clash by what they have as well: not only the first ones that fit in order count.
func TestClashOfSetsThatAreNotRight(t *testing.T) {
	x, y := turned(row(300, 0, 2)), turned(row(300, 1, 2))
	meeting := append(slices.Clone(y), slot(1, 0), slot(1, 0))
	for i, s := range []struct {
		a, b api.Sets
		want bool
	}{
		{api.Sets{Writes: x}, api.Sets{Writes: y, Reads: y}, false},
		{api.Sets{Writes: x}, api.Sets{Writes: meeting}, true},
		{api.Sets{Writes: x}, api.Sets{Reads: meeting}, true},
		{api.Sets{Reads: x}, api.Sets{Reads: meeting}, false},
		{api.Sets{Writes: wrong()}, api.Sets{Reads: turned(wrong())}, true},
		{api.Sets{Writes: wrong()}, api.Sets{Reads: turned(apart())}, false},
		{api.Sets{Reads: turned(wrong()), Writes: turned(apart())}, api.Sets{Writes: wrong()[3:4]}, true},
	} {
		if access.Clash(s.a, s.b) != s.want || access.Clash(s.b, s.a) != s.want {
			t.Error(i)
		}
	}
}

// Long lists in no order are no reason to hold each key of one against each of the other.
func TestLongListsEnd(t *testing.T) {
	x, y := make([]api.Key, 100003), make([]api.Key, 100003)
	for i := range x {
		x[i], y[i] = slot(byte(i), 7919*i%100003*2), slot(byte(i), 7907*i%100003*2+1)
	}
	a, b := api.Sets{Reads: x, Writes: x}, api.Sets{Reads: y, Writes: y}
	if access.Clash(a, b) {
		t.Error("they do not meet")
	}
	y[77] = x[99999]
	if !access.Clash(a, b) {
		t.Error("they meet")
	}
	if access.Right(a) {
		t.Error("too long")
	}
	if _, e := access.Make(x, y); e != api.ErrLong {
		t.Error(e)
	}
	if _, e := access.Make(x, append(y, wrong()[0])); e != api.ErrArg {
		t.Error(e)
	}
}

// R3

// answers are the sets that the calls tell of two, some of which change nothing.
func answers(a, b api.Sets) []api.Sets {
	var out []api.Sets
	keep := func(s api.Sets, _ api.Errno) { out = append(out, s) }
	keep(access.Make(a.Reads, a.Writes))
	keep(access.Make(a.Reads, a.Reads))
	keep(access.Make(nil, a.Writes))
	keep(access.Make(turned(a.Reads), b.Writes))
	keep(access.Join(a, api.Sets{}))
	keep(access.Join(api.Sets{}, a))
	keep(access.Join(a, a))
	keep(access.Join(a, b))
	keep(access.Join(api.Sets{Reads: a.Reads}, api.Sets{Writes: a.Reads}))
	return out
}

// scribble writes into all that there is of sets, and behind it.
func scribble(s api.Sets) {
	for _, l := range [][]api.Key{s.Reads, s.Writes} {
		l = l[:cap(l)]
		for i := range l {
			l[i] = slot(99, -7)
		}
	}
}

func tellEach(l []api.Sets) []string {
	var out []string
	for _, s := range l {
		out = append(out, tellAll(s))
	}
	return out
}

func TestAnswersAreNewMemory(t *testing.T) {
	rows := [][]api.Key{row(9, 0, 2), row(9, 1, 3), row(9, 0, 5), row(9, 50, 1)}
	a := api.Sets{Reads: rows[0][:5], Writes: rows[1][:5]}
	b := api.Sets{Reads: rows[2][:5], Writes: rows[3][:5]}
	first, second := answers(a, b), answers(a, b)
	was := tellEach(second)
	for _, s := range first {
		scribble(s)
	}
	for i, l := range [][]api.Key{row(9, 0, 2), row(9, 1, 3), row(9, 0, 5), row(9, 50, 1)} {
		if !slices.Equal(rows[i], l) {
			t.Error("what was handed in was written into", i)
		}
	}
	if !slices.Equal(tellEach(second), was) || !slices.Equal(tellEach(answers(a, b)), was) {
		t.Error("answers share memory")
	}
	for _, l := range rows {
		clear(l)
	}
	if !slices.Equal(tellEach(second), was) {
		t.Error("what was handed in was kept")
	}
}

func TestListsOfOneAnswerShareNothing(t *testing.T) {
	a := api.Sets{Reads: row(9, 0, 2), Writes: row(9, 1, 3)}
	b := api.Sets{Reads: row(9, 0, 5), Writes: row(9, 50, 1)}
	for i, s := range answers(a, b) {
		was := slices.Clone(s.Writes)
		scribble(api.Sets{Reads: s.Reads})
		if !slices.Equal(s.Writes, was) {
			t.Error(i)
		}
	}
}

func TestNothingIsWrittenInto(t *testing.T) {
	rows := [][]api.Key{turned(row(9, 0, 2)), turned(apart()), slices.Concat(row(4, 9, 1), row(5, 0, 1)), turned(wrong())}
	var was [][]api.Key
	for _, l := range rows {
		was = append(was, slices.Clone(l))
	}
	for many := range 6 {
		a := api.Sets{Reads: rows[0][:many], Writes: rows[1][:many]}
		b := api.Sets{Reads: rows[2][:many], Writes: rows[3][:many]}
		access.Right(a)
		access.May(a, account(1), true)
		access.Make(a.Reads, a.Writes)
		access.Make(b.Reads, a.Writes)
		access.Make(b.Reads, b.Writes)
		access.Join(a, b)
		access.Clash(a, b)
		access.Clash(b, a)
		access.Clash(b, b)
	}
	for i, l := range rows {
		if !slices.Equal(l, was[i]) {
			t.Error("written into what was handed in, or what stands behind it", i)
		}
	}
}
