package access

import "railhead/api"

// stray tells whether a key may be in no set.
func stray(k api.Key) bool { return !k.Slot && k.Key != api.Word{} }

// long tells whether there are more keys than a set may have.
func long(l []api.Key) bool { return len(l) > api.MaxDeclared }

// fit tells whether keys may be one of the sets.
func fit(l []api.Key) bool {
	// What is too long is not gone through.
	if long(l) || !rises(l, Order) {
		return false
	}
	for _, k := range l {
		if stray(k) {
			return false
		}
	}
	return true
}

// inOrder is sets of the same keys, in order, each once.
func inOrder(s api.Sets) api.Sets { return api.Sets{Reads: risen(s.Reads), Writes: risen(s.Writes)} }

// risen is the set of keys, or these themselves, if they are a set: it is for reading alone.
func risen(l []api.Key) []api.Key {
	if rises(l, Order) {
		return l
	}
	return set(l, Order)
}

// meet tells whether a key is in both lists, which rise.
func meet(a, b []api.Key) bool {
	for range both(a, b, Order) {
		return true
	}
	return false
}
