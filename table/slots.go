package table

import (
	"railhead/api"
	"railhead/word"
)

// slots is a list of slots as a table.
func slots(l []api.Slot) sorted[api.Word, api.Word] {
	return sorted[api.Word, api.Word]{
		many:  len(l),
		key:   func(place int) api.Word { return l[place].Key },
		value: func(place int) api.Word { return l[place].Value },
		order: word.Cmp,
	}
}

// void tells whether a slot keeps nothing.
func void(s api.Slot) bool { return s.Value == api.Word{} }

// listed is a slot for each key of two lists for which one is wanted, if these are not too many.
func listed(a, b []api.Slot, wanted func(pair[api.Word]) (api.Word, bool)) ([]api.Slot, api.Errno) {
	// Room for all at once: a list that grows bit by bit is copied over and over.
	out := make([]api.Slot, 0, min(len(a)+len(b), api.MaxSlots))
	for key, x := range both(slots(a), slots(b)) {
		value, is := wanted(x)
		if !is {
			continue
		}
		if len(out) == api.MaxSlots {
			return nil, api.ErrLong
		}
		out = append(out, api.Slot{Key: key, Value: value})
	}
	return out, api.OK
}

// behind is what is kept for a key behind a change, if anything is.
func behind(x pair[api.Word]) (api.Word, bool) {
	value := x.first
	if x.inSecond {
		value = x.second
	}
	return value, value != api.Word{}
}

// unlike is what the second one keeps for a key, if the first one keeps something else.
func unlike(x pair[api.Word]) (api.Word, bool) { return x.second, x.first != x.second }
