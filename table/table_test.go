package table_test

import (
	"slices"
	"testing"

	"railhead/api"
	"railhead/table"
	"railhead/word"
)

const most = 1<<64 - 1

// apart are keys in order; the parts that tell it stand at all places, and those below them tell the other way round.
func apart() []api.Word {
	return []api.Word{{}, {most}, {0, most}, {5, 0, 7}, {4, 0, 7, 1}}
}

// of is a list of these keys with these values.
func of(l ...int) []api.Slot {
	var out []api.Slot
	for i := 0; i < len(l); i += 2 {
		out = append(out, api.Slot{Key: word.Of(l[i]), Value: word.Of(l[i+1])})
	}
	return out
}

// row are so many slots with that value: the keys begin at a number, and each is so much more than the one ahead.
func row(many, first, step, value int) []api.Slot {
	var out []api.Slot
	for i := range many {
		out = append(out, api.Slot{Key: word.Of(first + i*step), Value: word.Of(value)})
	}
	return out
}

// G1

func TestNoSlotsMayBe(t *testing.T) {
	for _, l := range [][]api.Slot{nil, {}, row(5, 0, 0, 0)[:0]} {
		if !table.Patch(l) || !table.Right(l) {
			t.Error(len(l))
		}
	}
}

func TestKeysOfAllSizesMayBe(t *testing.T) {
	l := some(append(apart(), api.Word{most, most, most, most}), 1)
	if !table.Patch(l) || !table.Right(l) {
		t.Error("all")
	}
	for i := range l {
		if !table.Right(l[i : i+1]) {
			t.Error(i)
		}
	}
	l[5].Value = api.Word{0, 0, 0, 1 << 63}
	if !table.Right(l) {
		t.Error("a value whose parts are 0, but for the highest one")
	}
}

func TestKeysThatDoNotRise(t *testing.T) {
	// A wrong place is found wherever it is.
	for i := range 30 {
		l := row(30, 10, 2, 1)
		l[i].Key = word.Of(500)
		if table.Patch(l) != (i == 29) || table.Right(l) != (i == 29) {
			t.Error("greater", i)
		}
		l[i].Key = word.Of(0)
		if table.Patch(l) != (i == 0) || table.Right(l) != (i == 0) {
			t.Error("less", i)
		}
		l = row(30, 10, 2, 1)
		if i > 0 {
			l[i].Key = l[i-1].Key
			if table.Patch(l) || table.Right(l) {
				t.Error("the same", i)
			}
			// Not even the same slot may be there twice.
			l[i] = l[i-1]
			if table.Patch(l) || table.Right(l) {
				t.Error("twice", i)
			}
		}
	}
	for _, l := range [][]api.Slot{of(1, 1, 2, 2, 1, 1), of(3, 1, 2, 1, 1, 1), of(-1, 1, 0, 1), of(1, 0, 1, 0), of(1, 0, 1, 1)} {
		if table.Patch(l) || table.Right(l) {
			t.Error(l)
		}
	}
}

func TestAValueOfNoughtMayChangeOnly(t *testing.T) {
	for i := range 30 {
		l := row(30, 0, 3, 1)
		l[i].Value = api.Word{}
		if !table.Patch(l) || table.Right(l) {
			t.Error(i)
		}
	}
	if l := row(1000, 0, 1, 0); !table.Patch(l) || table.Right(l) {
		t.Error("all")
	}
}

func TestHowManySlotsMayBe(t *testing.T) {
	for many, want := range map[int]bool{999: true, 1000: true, 1001: false, 2000: false, 5000: false} {
		if l := row(many, 0, 7, 1); table.Patch(l) != want || table.Right(l) != want {
			t.Error(many)
		}
	}
}

// G2

func TestGetOfEachKey(t *testing.T) {
	l := some(append(apart(), api.Word{most, most, most, most}), 1)
	for i := range l {
		l[i].Value = api.Word{0, uint64(i), 0, 5}
	}
	for i := range l {
		if got := table.Get(l, l[i].Key); got != l[i].Value {
			t.Error(i, got)
		}
	}
	for _, key := range []api.Word{{1}, {most - 1}, {0, 1}, {5, 0, 7, 1}, {4, 0, 7}, {0, 0, 0, most}} {
		if got := table.Get(l, key); got != (api.Word{}) {
			t.Error(key, got)
		}
	}
	if got := table.Get(nil, api.Word{}); got != (api.Word{}) {
		t.Error(got)
	}
}

func TestGetOfListsThatMayNotBe(t *testing.T) {
	for i, x := range []struct {
		l         []api.Slot
		key, want int
	}{
		{of(2, 5, 1, 7, 2, 9), 2, 5},
		{of(2, 5, 1, 7, 2, 9), 1, 7},
		{of(2, 5, 1, 7, 2, 9), 3, 0},
		{of(9, 1, 8, 2, 7, 3, 6, 4, 5, 5), 9, 1},
		{of(9, 1, 8, 2, 7, 3, 6, 4, 5, 5), 6, 4},
		{of(9, 1, 8, 2, 7, 3, 6, 4, 5, 5), 5, 5},
		// The first slot tells it, also where its value is 0.
		{of(1, 0, 1, 4), 1, 0},
		{of(1, 1, 2, 0, 2, 3, 2, 4), 2, 0},
		{of(1, 1, 2, 3, 2, 0), 2, 3},
		{row(5000, 0, 1, 6), 4999, 6},
		{append(row(5000, 0, 1, 6), of(4999, 7, -1, 8)...), -1, 8},
	} {
		if got := table.Get(x.l, word.Of(x.key)); got != word.Of(x.want) {
			t.Error(i, got)
		}
	}
}

// G3

func TestPut(t *testing.T) {
	for i, x := range []struct {
		l          []api.Slot
		key, value int
		want       []api.Slot
	}{
		{nil, 5, 7, of(5, 7)},
		{of(5, 7), 3, 1, of(3, 1, 5, 7)},
		{of(3, 1, 5, 7), 5, 0, of(3, 1)},
		{of(3, 1, 5, 7), 4, 2, of(3, 1, 4, 2, 5, 7)},
		{of(3, 1, 5, 7), -1, 2, of(3, 1, 5, 7, -1, 2)},
		{of(3, 1, 5, 7), 3, -1, of(3, -1, 5, 7)},
		{of(3, 1, 5, 7), 3, 1, of(3, 1, 5, 7)},
		{of(5, 7), 5, 0, nil},
		{nil, 5, 0, nil},
		{of(3, 1, 5, 7), 4, 0, of(3, 1, 5, 7)},
		{of(0, 1), 0, 2, of(0, 2)},
	} {
		l, e := table.Put(x.l, word.Of(x.key), word.Of(x.value))
		if !slices.Equal(l, x.want) || e != api.OK {
			t.Error(i, l, e)
		}
	}
}

func TestPutToWhatIsNotRight(t *testing.T) {
	for _, l := range [][]api.Slot{of(3, 0), of(3, 1, 3, 1), of(3, 1, 2, 1), of(1, 1, 2, 0, 3, 1), row(1001, 0, 1, 1), row(1001, 0, 0, 0)} {
		for _, key := range []int{0, 1, 2, 3, 4, 5000} {
			for value := range 2 {
				// Not even what would mend it is done.
				got, e := table.Put(l, word.Of(key), word.Of(value))
				expect(t, "Put", got, e, nil, api.ErrArg)
			}
		}
	}
}

func TestPutOfTooMany(t *testing.T) {
	l := row(1000, 1, 2, 1)
	for _, key := range []int{0, 2, 1000, 1998, 2000, -1} {
		got, e := table.Put(l, word.Of(key), word.Of(1))
		expect(t, "Put of one more", got, e, nil, api.ErrLong)
		got, e = table.Put(l, word.Of(key), word.Of(0))
		expect(t, "Put of nothing", got, e, l, api.OK)
		got, e = table.Put(l[:999], word.Of(key), word.Of(1))
		if len(got) != 1000 || !table.Right(got) || e != api.OK {
			t.Error(key, len(got), e)
		}
	}
	for _, place := range []int{0, 1, 500, 999} {
		want := slices.Clone(l)
		want[place].Value = word.Of(2)
		got, e := table.Put(l, l[place].Key, word.Of(2))
		expect(t, "Put of another value", got, e, want, api.OK)
		got, e = table.Put(l, l[place].Key, word.Of(0))
		expect(t, "Put of 0", got, e, slices.Delete(slices.Clone(l), place, place+1), api.OK)
	}
}

// G4

func TestMerge(t *testing.T) {
	for i, x := range []struct{ l, patch, want []api.Slot }{
		{nil, nil, nil},
		{of(1, 1), nil, of(1, 1)},
		{nil, of(1, 1), of(1, 1)},
		{nil, of(1, 0, 2, 0), nil},
		{of(1, 1, 2, 2), of(1, 0, 2, 0), nil},
		{of(1, 1, 3, 3), of(0, 5, 1, 6, 2, 7, 3, 0, 4, 9), of(0, 5, 1, 6, 2, 7, 4, 9)},
		{of(4, 1, 5, 1), of(1, 2, 2, 2), of(1, 2, 2, 2, 4, 1, 5, 1)},
		{of(1, 2, 2, 2), of(4, 1, 5, 1), of(1, 2, 2, 2, 4, 1, 5, 1)},
		{of(1, 1, 2, 2, 3, 3), of(2, 2), of(1, 1, 2, 2, 3, 3)},
		{of(1, 1, -1, 2), of(-2, 3, -1, 0), of(1, 1, -2, 3)},
	} {
		l, e := table.Merge(x.l, x.patch)
		if !slices.Equal(l, x.want) || e != api.OK {
			t.Error(i, l, e)
		}
	}
}

func TestDiff(t *testing.T) {
	for i, x := range []struct{ a, b, want []api.Slot }{
		{nil, nil, nil},
		{of(1, 1, 2, 2), of(1, 1, 2, 2), nil},
		{nil, of(1, 1, 2, 2), of(1, 1, 2, 2)},
		{of(1, 1, 2, 2), nil, of(1, 0, 2, 0)},
		{of(1, 1, 3, 3, 5, 5), of(2, 2, 3, 3, 5, 6), of(1, 0, 2, 2, 5, 6)},
		{of(4, 1, 5, 1), of(1, 2, 2, 2), of(1, 2, 2, 2, 4, 0, 5, 0)},
		{of(1, 2), of(1, 1), of(1, 1)},
		{of(1, 1, -1, 2), of(1, 1, -2, 2), of(-2, 2, -1, 0)},
	} {
		l, e := table.Diff(x.a, x.b)
		if !slices.Equal(l, x.want) || e != api.OK {
			t.Error(i, l, e)
		}
	}
	// Values are unlike, wherever one of their parts is.
	for place := range 4 {
		a, b := of(7, 1), of(7, 1)
		b[0].Value[place] ^= 1 << 63
		l, e := table.Diff(a, b)
		expect(t, "Diff", l, e, b, api.OK)
	}
}

func TestListsThatMayNotBe(t *testing.T) {
	right := [][]api.Slot{nil, of(1, 1), row(1000, 0, 2, 1)}
	nones := [][]api.Slot{of(1, 1, 1, 1), of(1, 0, 1, 0), of(2, 1, 1, 1), of(1, 1, 3, 0, 2, 1), row(1001, 1, 2, 1), row(1001, 0, 2, 0)}
	patches := [][]api.Slot{of(1, 0), of(1, 1, 2, 0), row(1000, 0, 2, 0)}
	wrong := func(a, b []api.Slot, merge, diff bool) {
		t.Helper()
		if l, e := table.Merge(a, b); (e == api.ErrArg) != merge || merge && len(l) > 0 {
			t.Error("Merge", short(a), short(b), e)
		}
		if l, e := table.Diff(a, b); (e == api.ErrArg) != diff || diff && len(l) > 0 {
			t.Error("Diff", short(a), short(b), e)
		}
	}
	for _, r := range right {
		for _, other := range right {
			wrong(r, other, false, false)
		}
		for _, none := range nones {
			wrong(r, none, true, true)
			wrong(none, r, true, true)
			for _, p := range patches {
				wrong(none, p, true, true)
				wrong(p, none, true, true)
			}
		}
		for _, p := range patches {
			wrong(r, p, false, true)
			wrong(p, r, true, true)
			wrong(p, p, true, true)
		}
	}
}

// expectMany holds a list against how many slots there are to be, if they may be.
func expectMany(t *testing.T, i int, l []api.Slot, e api.Errno, many int) {
	t.Helper()
	want := api.OK
	if many > 1000 {
		many, want = 0, api.ErrLong
	}
	if len(l) != many || e != want {
		t.Error(i, len(l), e)
	}
}

func TestMergeOfTooMany(t *testing.T) {
	l := row(1000, 0, 2, 1)
	for i, x := range []struct {
		l, patch []api.Slot
		many     int
	}{
		{l, row(1, 1, 1, 1), 1001},
		{l, row(1, 5000, 1, 1), 1001},
		{l, row(1, -1, 1, 1), 1001},
		{l, row(1000, 1, 2, 1), 2000},
		{l, l, 1000},
		{l, row(1000, 1, 2, 0), 1000},
		{l, row(1000, 0, 2, 0), 0},
		{l[:500], row(500, 1, 2, 1), 1000},
		{l[:500], row(501, 1, 2, 1), 1001},
		{l[:500], row(501, 1000, 2, 1), 1001},
		{l[:500], row(1000, 500, 2, 2), 1250},
		{l[:500], row(750, 500, 2, 2), 1000},
		{nil, l, 1000},
		// As many are there then: those that come first are not counted by themselves.
		{l, of(1, 1, 2, 0), 1000},
		{l, of(0, 0, 1, 1), 1000},
		{l, of(1, 1, 3, 1, 1996, 0, 1998, 0), 1000},
		{l, of(1, 1, 3, 1, 1998, 0), 1001},
		{l, of(-2, 1, -1, 0), 1001},
	} {
		got, e := table.Merge(x.l, x.patch)
		want, f := merged(x.l, x.patch)
		expect(t, "Merge", got, e, want, f)
		expectMany(t, i, got, e, x.many)
	}
}

func TestDiffOfTooMany(t *testing.T) {
	l := row(1000, 0, 2, 1)
	for i, x := range []struct {
		a, b []api.Slot
		many int
	}{
		{l, nil, 1000},
		{nil, l, 1000},
		{l, row(1000, 0, 2, 2), 1000},
		{l, l, 0},
		{l, row(1, 1, 1, 1), 1001},
		{row(1, 1, 1, 1), l, 1001},
		{l, row(1, 2000, 1, 1), 1001},
		{l[:500], row(500, 1, 2, 1), 1000},
		{l[:500], row(501, 1, 2, 1), 1001},
		{row(501, 1, 2, 1), l[:500], 1001},
		{l, row(1000, 1, 2, 1), 2000},
		// What is the same does not count.
		{l, append(slices.Clone(l[:999]), of(2001, 1)...), 2},
		{l, append(of(0, 1), row(999, 1, 2, 1)...), 1998},
	} {
		got, e := table.Diff(x.a, x.b)
		want, f := differing(x.a, x.b)
		expect(t, "Diff", got, e, want, f)
		expectMany(t, i, got, e, x.many)
	}
}

// R3

// answers are what the calls that answer lists tell of two of them, some of which change nothing.
func answers(a, b []api.Slot) [][]api.Slot {
	var out [][]api.Slot
	keep := func(l []api.Slot, _ api.Errno) { out = append(out, l) }
	keep(table.Put(a, word.Of(500), word.Of(0)))
	keep(table.Put(a, a[0].Key, a[0].Value))
	keep(table.Put(a, a[1].Key, word.Of(9)))
	keep(table.Put(a, word.Of(500), word.Of(9)))
	keep(table.Merge(a, nil))
	keep(table.Merge(nil, a))
	keep(table.Merge(a, b))
	keep(table.Merge(a, a))
	keep(table.Diff(nil, a))
	keep(table.Diff(a, nil))
	keep(table.Diff(a, b))
	keep(table.Put(nil, word.Of(500), word.Of(9)))
	return out
}

func TestAnswersAreNewMemory(t *testing.T) {
	a, b := row(9, 0, 2, 1), row(9, 1, 3, 2)
	wasA, wasB := slices.Clone(a), slices.Clone(b)
	first, second := answers(a[:5], b[:5]), answers(a[:5], b[:5])
	var was [][]api.Slot
	for _, l := range second {
		was = append(was, slices.Clone(l))
	}
	for _, l := range first {
		for i := range l {
			l[i] = api.Slot{Key: word.Of(-7), Value: word.Of(-7)}
		}
		grown := l[:cap(l)]
		for i := range grown {
			grown[i] = api.Slot{Key: word.Of(-8), Value: word.Of(-8)}
		}
	}
	if !slices.Equal(a, wasA) || !slices.Equal(b, wasB) {
		t.Error("what was handed in was written into")
	}
	for i, l := range answers(a[:5], b[:5]) {
		if !slices.Equal(second[i], was[i]) || !slices.Equal(l, was[i]) {
			t.Error(i)
		}
	}
	for i := range a {
		a[i], b[i] = api.Slot{}, api.Slot{}
	}
	for i := range second {
		if !slices.Equal(second[i], was[i]) {
			t.Error("what was handed in was kept", i)
		}
	}
}

func TestNothingIsWrittenInto(t *testing.T) {
	a, b := row(9, 0, 2, 1), row(9, 1, 3, 0)
	wasA, wasB := slices.Clone(a), slices.Clone(b)
	for many := range 10 {
		table.Patch(b[:many])
		table.Right(a[:many])
		table.Get(a[:many], a[5].Key)
		table.Put(a[:many], word.Of(many), word.Of(many))
		table.Merge(a[:many], b[:many])
		table.Diff(a[:many], a[many:])
	}
	if !slices.Equal(a, wasA) || !slices.Equal(b, wasB) {
		t.Error("written into what was handed in, or what stands behind it")
	}
}

// An error may not leave a list behind that could be taken for an answer.
func TestErrorsStandAlone(t *testing.T) {
	l := row(1000, 0, 2, 1)
	lists := [][]api.Slot{nil, nil, nil, nil, nil, nil}
	errors := make([]api.Errno, len(lists))
	lists[0], errors[0] = table.Put(of(1, 0), word.Of(1), word.Of(1))
	lists[1], errors[1] = table.Put(l, word.Of(1), word.Of(1))
	lists[2], errors[2] = table.Merge(l, of(2, 1, 1, 1))
	lists[3], errors[3] = table.Merge(l, of(1, 1))
	lists[4], errors[4] = table.Diff(l, of(1, 0))
	lists[5], errors[5] = table.Diff(l, of(1, 1))
	want := []api.Errno{api.ErrArg, api.ErrLong, api.ErrArg, api.ErrLong, api.ErrArg, api.ErrLong}
	for i := range lists {
		if len(lists[i]) != 0 || errors[i] != want[i] {
			t.Error(i, len(lists[i]), errors[i])
		}
	}
}
