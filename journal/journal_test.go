package journal_test

import (
	"math"
	"slices"
	"strings"
	"testing"

	"railhead/api"
	"railhead/journal"
	"railhead/state"
	"railhead/word"
)

func balance(at byte, n int) api.Change {
	return api.Change{Kind: api.SetBalance, At: api.Addr{at}, Value: word.Of(n)}
}

func nonce(at api.Addr, n int) api.Change { return api.Change{Kind: api.SetNonce, At: at, Nonce: n} }

func slot(at api.Addr, key, value int) api.Change {
	return api.Change{Kind: api.SetSlot, At: at, Key: word.Of(key), Value: word.Of(value)}
}

// place is one of addresses in order.
func place(i int) api.Addr { return api.Addr{4: byte(i >> 8), 19: byte(i)} }

// row are so many accounts, at the places 1, 3, 5 and so on.
func row(many int) []api.Account {
	var out []api.Account
	for i := range many {
		out = append(out, api.Account{At: place(2*i + 1), Nonce: 1})
	}
	return out
}

// slotRow are so many slots, of the keys 0, 2, 4 and so on.
func slotRow(many int) []api.Slot {
	var out []api.Slot
	for i := range many {
		out = append(out, api.Slot{Key: word.Of(2 * i), Value: word.Of(1)})
	}
	return out
}

// few is a journal that has something of all kinds.
func few() api.Journal {
	s := []api.Account{
		{At: api.Addr{1}, Balance: word.Of(5), Slots: slotRow(3)},
		{At: api.Addr{2}, Nonce: 1, Code: "ab", Slots: slotRow(2)},
		{At: api.Addr{3}, Balance: word.Of(7)},
	}
	return api.Journal{
		State: s,
		Undo:  []api.Change{balance(1, 0), nonce(api.Addr{2}, 0), slot(api.Addr{2}, 2, 9), balance(3, 0), {Kind: api.SetCode, At: api.Addr{4}, Code: "c"}},
		Marks: []int{0, 2, 2, 4, 5},
	}
}

// wrongStates are accounts that may not be a state.
func wrongStates() [][]api.Account {
	return [][]api.Account{
		{{}},
		{{At: api.Addr{1}}},
		{{Nonce: 1}, {Nonce: 1}},
		{{At: api.Addr{1}, Nonce: 1}, {Nonce: 1}},
		{{At: api.Addr{1}, Nonce: 1}, {At: api.Addr{2}, Nonce: -1}},
		{{Nonce: 1<<53 + 1}},
		{{Code: strings.Repeat("a", 24577)}},
		{{Slots: []api.Slot{{}}}},
		{{Slots: slotRow(1001)}},
		{{Slots: append(slotRow(2), slotRow(1)...)}},
		row(201),
		row(5000),
	}
}

// wrongChanges are those that can be done in no state.
func wrongChanges() []api.Change {
	at := api.Addr{9}
	return []api.Change{
		{},
		{Kind: 5},
		{Kind: -1, At: at},
		{Kind: math.MaxInt, At: at},
		{Kind: math.MinInt, At: at},
		nonce(at, -1),
		nonce(at, 1<<53+1),
		nonce(at, math.MinInt),
		{Kind: api.SetCode, At: at, Code: strings.Repeat("a", 24577)},
	}
}

// wrongJournals are those that may not be.
func wrongJournals() []api.Journal {
	out := []api.Journal{
		{Undo: slices.Repeat([]api.Change{balance(1, 0)}, 2001)},
		{Undo: slices.Repeat([]api.Change{balance(1, 0)}, 5000)},
		{Marks: make([]int, 1101)},
		{Marks: make([]int, 5000)},
		{Marks: []int{-1}},
		{Marks: []int{1}},
		{Marks: []int{math.MinInt}},
		{Marks: []int{math.MaxInt}},
	}
	for _, s := range wrongStates() {
		out = append(out, api.Journal{State: s}, api.Journal{State: s, Undo: few().Undo, Marks: few().Marks})
	}
	for _, c := range wrongChanges() {
		j := few()
		j.Undo[2] = c
		out = append(out, j)
	}
	for _, marks := range [][]int{{0, 2, 1}, {5, 4}, {0, 6}, {-1, 2}, {6}} {
		j := few()
		j.Marks = marks
		out = append(out, j)
	}
	return out
}

// I1

func TestRightOfStates(t *testing.T) {
	for i, s := range wrongStates() {
		if journal.Right(api.Journal{State: s}) {
			t.Error(i)
		}
	}
	for i, s := range [][]api.Account{nil, {}, row(1), row(200), few().State, {{Slots: slotRow(1000)}}, {{Nonce: 1 << 53, Code: strings.Repeat("a", 24576)}}} {
		if !journal.Right(api.Journal{State: s}) {
			t.Error(i)
		}
	}
	// What would come of it by undoing does not mend a state.
	if journal.Right(api.Journal{State: []api.Account{{Nonce: -1}}, Undo: []api.Change{nonce(api.Addr{}, 1)}}) {
		t.Error("mended")
	}
}

func TestRightOfHowMany(t *testing.T) {
	for many, want := range map[int]bool{0: true, 1: true, 1999: true, 2000: true, 2001: false, 4000: false} {
		for _, c := range []api.Change{balance(1, 0), balance(1, 1)} {
			j := api.Journal{Undo: slices.Repeat([]api.Change{c}, many)}
			if journal.Right(j) != want {
				t.Error(many, "changes")
			}
			if j.Marks = []int{0, min(many, 2000), many}; journal.Right(j) != want {
				t.Error(many, "changes, and marks")
			}
		}
	}
	for many, want := range map[int]bool{0: true, 1: true, 1099: true, 1100: true, 1101: false, 2000: false} {
		if journal.Right(api.Journal{Marks: make([]int, many)}) != want {
			t.Error(many, "marks")
		}
	}
}

func TestRightOfMarks(t *testing.T) {
	for i := range 30 {
		for mark := -2; mark < 35; mark++ {
			j := api.Journal{Undo: slices.Repeat([]api.Change{balance(1, 0)}, 30), Marks: make([]int, 30)}
			for k := range j.Marks {
				j.Marks[k] = k + 1
			}
			j.Marks[i] = mark
			// It may be any that is not below the one ahead, nor above the one behind.
			if want := mark >= 0 && mark >= i && mark <= min(i+2, 30); journal.Right(j) != want {
				t.Error(i, mark)
			}
		}
	}
}

func TestRightOfWhatCanNotBeUndone(t *testing.T) {
	for i := range 30 {
		for k, c := range wrongChanges() {
			j := api.Journal{State: few().State, Undo: slices.Repeat([]api.Change{balance(1, 4)}, 30)}
			j.Undo[i] = c
			if journal.Right(j) {
				t.Error(i, k)
			}
		}
	}
	// What is not of a change's kind makes no difference.
	noise := api.Change{Kind: api.SetBalance, Nonce: -1, Code: strings.Repeat("a", 30000), Key: word.Of(-1)}
	if !journal.Right(api.Journal{Undo: []api.Change{noise}}) {
		t.Error("noise")
	}
}

func TestRightGoesFromTheLastToTheFirst(t *testing.T) {
	// There is place for one account more only when another one is taken away.
	for _, i := range []int{0, 2, 200, 400, 9000} {
		take, give := nonce(place(1), 0), balance(200, 1)
		give.At = place(i)
		j := api.Journal{State: row(200), Undo: []api.Change{give, take}}
		expectRight(t, j)
		if !journal.Right(j) {
			t.Error(i, "taken, and given")
		}
		j.Undo = []api.Change{take, give}
		expectRight(t, j)
		if journal.Right(j) {
			t.Error(i, "given, and taken")
		}
		j.Undo = []api.Change{give, give, give, take}
		if !journal.Right(j) {
			t.Error(i, "given more than once")
		}
		j.State = row(199)
		for _, undo := range [][]api.Change{{give}, {give, give}, {take, give}} {
			if j.Undo = undo; !journal.Right(j) {
				t.Error(i, "place enough")
			}
		}
		// One account more each time, and none too many at last.
		j.Undo = []api.Change{nonce(place(20), 1), take, give}
		expectRight(t, j)
		j.Undo = []api.Change{take, nonce(place(20), 1), give}
		expectRight(t, j)
		if journal.Right(j) {
			t.Error(i, "one too many on the way")
		}
	}
	// The same with slots.
	at := api.Addr{1}
	for many, want := range map[int]bool{998: true, 999: true, 1000: false} {
		j := api.Journal{State: []api.Account{{At: at, Slots: slotRow(many)}}, Undo: []api.Change{slot(at, 0, 0), slot(at, 1, 1)}}
		if journal.Right(j) != want {
			t.Error(many)
		}
		slices.Reverse(j.Undo)
		if !journal.Right(j) {
			t.Error(many, "the other way round")
		}
	}
}

func TestOpen(t *testing.T) {
	for i, s := range wrongStates() {
		if j, e := journal.Open(s); tell(j) != tell(api.Journal{}) || e != api.ErrArg {
			t.Error(i, short(j), e)
		}
	}
	for i, s := range [][]api.Account{nil, {}, few().State, row(200)} {
		if j, e := journal.Open(s); tell(j) != tell(api.Journal{State: s}) || e != api.OK || !journal.Right(j) {
			t.Error(i, short(j), e)
		}
	}
}

// What is no journal

func TestWhatIsNoJournalIsAsItWas(t *testing.T) {
	for i, j := range wrongJournals() {
		if journal.Right(j) {
			t.Error(i, "right")
		}
		was := tell(j)
		expectAsWas := func(what string, out api.Journal, e api.Errno) {
			t.Helper()
			if tell(out) != was || e != api.ErrArg {
				t.Error(i, what, short(out), e)
			}
		}
		out, e := journal.Do(j)
		expectAsWas("do none", out, e)
		out, e = journal.Do(j, balance(1, 1))
		expectAsWas("do", out, e)
		out, e = journal.Do(j, wrongChanges()...)
		expectAsWas("do what can't be done", out, e)
		out, n, e := journal.Mark(j)
		expectAsWas("mark", out, e)
		if n != 0 {
			t.Error(i, n)
		}
		// ErrArg goes ahead of ErrNone.
		for _, mark := range []int{math.MinInt, -1, 0, 1, 4, 5, 2000, math.MaxInt} {
			out, e = journal.Back(j, mark)
			expectAsWas("back", out, e)
			out, e = journal.Keep(j, mark)
			expectAsWas("keep", out, e)
		}
	}
}

// I2

func TestDoOfEachKind(t *testing.T) {
	for _, at := range []api.Addr{{}, {1}, {2}, {2, 1}, {255}} {
		for kind := 1; kind <= 4; kind++ {
			noisy := api.Change{Kind: kind, At: at, Key: word.Of(2), Value: word.Of(8), Nonce: 6, Code: "new"}
			none := api.Change{Kind: kind, At: at, Key: word.Of(2)}
			j := expectDo(t, few(), noisy, none, noisy)
			if len(j.Undo) != 8 || !slices.Equal(j.Marks, few().Marks) {
				t.Error(kind, short(j))
			}
		}
	}
}

func TestDoDoesAllOrNone(t *testing.T) {
	good := []api.Change{balance(1, 6), balance(9, 1), nonce(api.Addr{2}, 4), slot(api.Addr{9}, 1, 1)}
	for _, c := range wrongChanges() {
		for i := range len(good) + 1 {
			j, e := journal.Do(few(), slices.Insert(slices.Clone(good), i, c)...)
			if tell(j) != tell(few()) || e != api.ErrArg {
				t.Error(i, c.Kind, short(j), e)
			}
		}
	}
}

func TestDoOfNothingNew(t *testing.T) {
	// What changes nothing can be undone, too.
	same := balance(1, 5)
	if j := expectDo(t, few(), same, same); len(j.Undo) != 7 || j.Undo[5] != same || j.Undo[6] != same {
		t.Error(short(j))
	}
	if j := expectDo(t, few()); tell(j) != tell(few()) {
		t.Error(short(j))
	}
}

func TestDoOfTooManyChanges(t *testing.T) {
	c := balance(1, 1)
	for had, more := range map[int]int{0: 2000, 1: 1999, 1998: 2, 1999: 1, 2000: 0} {
		j := api.Journal{Undo: slices.Repeat([]api.Change{c}, had)}
		if out, e := journal.Do(j, slices.Repeat([]api.Change{c}, more)...); len(out.Undo) != 2000 || e != api.OK {
			t.Error(had, len(out.Undo), e)
		}
		for _, l := range [][]api.Change{{c}, {c, c}, {{}}, {{}, c}, {c, {}}} {
			l = slices.Concat(slices.Repeat([]api.Change{c}, more), l)
			if out, e := journal.Do(j, l...); tell(out) != tell(j) || e != api.ErrLong {
				t.Error(had, len(l), len(out.Undo), e)
			}
		}
		// What can't be done is told, if there is place for it.
		if more > 0 {
			l := slices.Repeat([]api.Change{c}, more+5)
			l[more-1] = api.Change{}
			if out, e := journal.Do(j, l...); tell(out) != tell(j) || e != api.ErrArg {
				t.Error(had, len(out.Undo), e)
			}
		}
	}
}

func TestDoOfTooManyAccounts(t *testing.T) {
	j := api.Journal{State: row(200)}
	for _, i := range []int{0, 2, 200, 400, 9000} {
		give, take := nonce(place(i), 1), nonce(place(1), 0)
		for _, l := range [][]api.Change{{give}, {take, give, nonce(place(5000), 1)}, {nonce(place(1), 7), give, take}} {
			if out, e := journal.Do(j, l...); tell(out) != tell(j) || e != api.ErrLong {
				t.Error(i, len(out.State), e)
			}
		}
		if out := expectDo(t, j, take, give); len(out.State) != 200 || !state.Right(out.State) {
			t.Error(i, len(out.State))
		}
		expectDo(t, j, nonce(place(i), 0), nonce(place(1), 5))
		expectDo(t, j, nonce(place(i), -1))
		expectDo(t, j, give, nonce(place(i), -1))
		if out := expectDo(t, api.Journal{State: row(199)}, give); len(out.State) != 200 {
			t.Error(i, len(out.State))
		}
	}
}

func TestDoOfTooManySlots(t *testing.T) {
	at := api.Addr{1}
	j := api.Journal{State: []api.Account{{At: at, Slots: slotRow(1000)}}}
	for _, key := range []int{1, 999, 5000, -1} {
		if out, e := journal.Do(j, nonce(at, 1), slot(at, key, 1)); tell(out) != tell(j) || e != api.ErrLong {
			t.Error(key, e)
		}
		out := expectDo(t, j, slot(at, 0, 0), slot(at, key, 1))
		if out = expectDo(t, expectMark(t, out), slot(at, key, 0), slot(at, 0, 3)); len(out.State[0].Slots) != 1000 {
			t.Error(key, len(out.State[0].Slots))
		}
		expectBack(t, out, 0)
	}
}

// I3

func TestMark(t *testing.T) {
	j := few()
	for i := range 10 {
		out, n, e := journal.Mark(j)
		want := few()
		want.Marks = append(want.Marks, slices.Repeat([]int{5}, i+1)...)
		if tell(out) != tell(want) || n != 5+i || e != api.OK {
			t.Fatal(short(out), n, e)
		}
		j = out
	}
}

func TestMarkOfTooMany(t *testing.T) {
	for many, want := range map[int]api.Errno{0: api.OK, 1098: api.OK, 1099: api.OK, 1100: api.ErrLong} {
		j := few()
		j.Marks = make([]int, many)
		out, n, e := journal.Mark(j)
		if e != want || e == api.OK && (n != many || len(out.Marks) != many+1) || e != api.OK && (n != 0 || tell(out) != tell(j)) {
			t.Error(many, n, e)
		}
	}
}

// I4

func TestBackAndKeep(t *testing.T) {
	for mark := range 5 {
		back, keep := expectBack(t, few(), mark), expectKeep(t, few(), mark)
		if len(back.Undo) != few().Marks[mark] || len(back.Marks) != mark || len(keep.Undo) != 5 || len(keep.Marks) != mark || !state.Same(keep.State, few().State) {
			t.Error(mark, short(back), short(keep))
		}
	}
	// By hand: the last but one first, up to what the mark at 3 tells.
	back, e := journal.Back(few(), 3)
	want := few()
	want.State = append(want.State, api.Account{At: api.Addr{4}, Code: "c"})
	want.Undo, want.Marks = want.Undo[:4], want.Marks[:3]
	if tell(back) != tell(want) || e != api.OK {
		t.Error(short(back), e)
	}
}

func TestBackUndoesTheLastFirst(t *testing.T) {
	j := api.Journal{Undo: []api.Change{balance(1, 1), balance(1, 2), balance(1, 3)}, Marks: []int{0, 1, 2, 3}}
	for mark, want := range []int{1, 2, 3, 0} {
		back, e := journal.Back(j, mark)
		if x := state.Find(back.State, api.Addr{1}); x.Balance != word.Of(want) || e != api.OK {
			t.Error(mark, short(back), e)
		}
	}
}

func TestNoMarkAtThatPlace(t *testing.T) {
	for _, mark := range []int{math.MinInt, -1 << 32, -1, 5, 6, 1 << 32, math.MaxInt} {
		out, e := journal.Back(few(), mark)
		if tell(out) != tell(few()) || e != api.ErrNone {
			t.Error(mark, short(out), e)
		}
		out, e = journal.Keep(few(), mark)
		if tell(out) != tell(few()) || e != api.ErrNone {
			t.Error(mark, short(out), e)
		}
	}
	for _, mark := range []int{-1, 0, 1} {
		if out, e := journal.Back(api.Journal{}, mark); tell(out) != tell(api.Journal{}) || e != api.ErrNone {
			t.Error(mark, short(out), e)
		}
		if out, e := journal.Keep(api.Journal{}, mark); tell(out) != tell(api.Journal{}) || e != api.ErrNone {
			t.Error(mark, short(out), e)
		}
	}
}

// I5

func TestTheChaptersExample(t *testing.T) {
	for _, s := range [][]api.Account{nil, few().State} {
		j, _ := journal.Open(s)
		j, a, _ := journal.Mark(j)
		j, _ = journal.Do(j, balance(3, 5))
		j, b, _ := journal.Mark(j)
		j, _ = journal.Do(j, balance(3, 7))
		back, e := journal.Back(j, 0)
		if a != 0 || b != 1 || tell(back) != tell(api.Journal{State: s}) || e != api.OK {
			t.Error(a, b, short(back), e)
		}
		// What was kept is undone by the mark ahead.
		j, _ = journal.Keep(j, 1)
		if back, e = journal.Back(j, 0); tell(back) != tell(api.Journal{State: s}) || e != api.OK {
			t.Error(short(back), e)
		}
	}
}

func TestBackOfAllThatThereMayBe(t *testing.T) {
	s := row(199)
	for i := range s {
		s[i].Slots = slotRow(1000)
	}
	s = append(s, api.Account{At: api.Addr{255}, Slots: slotRow(1000)})
	j, _ := journal.Open(s)
	j, _, _ = journal.Mark(j)
	var l []api.Change
	for i := range 2000 {
		// Each account is changed, and one after the other of a full one's slots is another one.
		l = append(l, slot(place(2*(i%199)+1), 2*i%2000, i), slot(api.Addr{255}, 2*(i/2), 0), slot(api.Addr{255}, 2*(i/2)+1, 1))
	}
	j, e := journal.Do(j, l[:2000]...)
	if e != api.OK || len(j.Undo) != 2000 || state.Same(j.State, s) {
		t.Fatal(e)
	}
	if j, e = journal.Back(j, 0); e != api.OK || tell(j) != tell(api.Journal{State: s}) {
		t.Error(e)
	}
}

// R3

// answers are the journals that the calls tell of one, some of which are as it was.
func answers(j api.Journal) []api.Journal {
	var out []api.Journal
	add := func(j api.Journal, _ api.Errno) { out = append(out, j) }
	add(journal.Open(j.State))
	add(journal.Do(j))
	add(journal.Do(j, balance(1, 1)))
	add(journal.Do(j, slot(api.Addr{2}, 2, 7), balance(9, 1)))
	add(journal.Do(j, balance(1, 1), api.Change{}))
	marked, _, e := journal.Mark(j)
	add(marked, e)
	for mark := -1; mark < 6; mark++ {
		add(journal.Back(j, mark))
		add(journal.Keep(j, mark))
	}
	return out
}

// scribble writes into all that there is of a journal, and behind it.
func scribble(j api.Journal) {
	for i, x := range j.State {
		for k := range x.Slots[:cap(x.Slots)] {
			x.Slots[:cap(x.Slots)][k] = api.Slot{Key: word.Of(-5), Value: word.Of(-5)}
		}
		j.State[i] = api.Account{At: api.Addr{66}, Nonce: -6}
	}
	_ = append(j.State, api.Account{Nonce: -7}, api.Account{Nonce: -8})
	for i := range j.Undo[:cap(j.Undo)] {
		j.Undo[:cap(j.Undo)][i] = api.Change{Kind: -3}
	}
	for i := range j.Marks[:cap(j.Marks)] {
		j.Marks[:cap(j.Marks)][i] = -9
	}
}

func tellEach(l []api.Journal) []string {
	var out []string
	for _, j := range l {
		out = append(out, tell(j))
	}
	return out
}

func TestAnswersAreNewMemory(t *testing.T) {
	wrong := few()
	wrong.Marks[1] = -1
	for i, j := range []api.Journal{few(), wrong, {}} {
		was := tell(j)
		all := answers(j)
		told := tellEach(all)
		for k := range all {
			scribble(all[k])
			if tell(j) != was {
				t.Fatal(i, k, "what was handed in is changed")
			}
			if now := tellEach(all[k+1:]); !slices.Equal(now, told[k+1:]) {
				t.Fatal(i, k, "another answer is changed")
			}
		}
		if !slices.Equal(tellEach(answers(j)), told) {
			t.Error(i, "not the same for the same")
		}
	}
}

func TestListsOfOneAnswerShareNothing(t *testing.T) {
	for i, j := range answers(few()) {
		seen := map[*api.Slot]bool{}
		for _, x := range j.State {
			if len(x.Slots) == 0 {
				continue
			}
			if seen[&x.Slots[0]] {
				t.Error(i)
			}
			seen[&x.Slots[0]] = true
		}
	}
}

func TestWhatIsHandedInIsNotWrittenInto(t *testing.T) {
	// What stands behind the lengths is another's, too.
	all := few()
	all.State[0].Slots = append(all.State[0].Slots, slotRow(9)...)[:3]
	j := api.Journal{State: all.State[:2], Undo: all.Undo[:3], Marks: all.Marks[:2]}
	l := []api.Change{balance(1, 9), balance(8, 1), slot(api.Addr{1}, 3, 1), nonce(api.Addr{2}, 0)}
	was, changes := tell(all), slices.Clone(l)
	if !journal.Right(j) {
		t.Fatal(short(j))
	}
	journal.Open(j.State)
	journal.Mark(j)
	for many := range len(l) + 1 {
		journal.Do(j, l[:many]...)
	}
	for mark := range 2 {
		journal.Back(j, mark)
		journal.Keep(j, mark)
	}
	if tell(all) != was || !slices.Equal(all.State[0].Slots[:12], append(slotRow(3), slotRow(9)...)) || !slices.Equal(l, changes) {
		t.Error(short(all))
	}
	// The changes are not kept: their owner may write into them.
	out, _ := journal.Do(j, l...)
	told := tell(out)
	clear(l)
	if tell(out) != told {
		t.Error(short(out))
	}
}
