package gas_test

import (
	"math/big"

	"railhead/api"
)

// What follows says what the chapter says, with numbers that have no end.

// numberOf is a word's number.
func numberOf(w api.Word) *big.Int {
	n := new(big.Int)
	for place := 3; place >= 0; place-- {
		n.Lsh(n, 64)
		n.Add(n, new(big.Int).SetUint64(w[place]))
	}
	return n
}

// counted is as how many so many bytes count.
func counted(n int) int {
	if n < 0 {
		return 0
	}
	if n > 1048576 {
		return 1048576
	}
	return n
}

// wordsOf is n divided by 32, rounded up.
func wordsOf(n int) int {
	whole, rest := counted(n)/32, counted(n)%32
	if rest == 0 {
		return whole
	}
	return whole + 1
}

// exp is what Exp promises.
func exp(e api.Word) int {
	digits := 0
	for n := numberOf(e); n.Sign() > 0; n.Rsh(n, 8) {
		digits++
	}
	return 50 * digits
}

// initial is what Init promises.
func initial(n int, salted bool) int {
	if salted {
		return (2 + 6) * wordsOf(n)
	}
	return 2 * wordsOf(n)
}

// touch is what Touch promises.
func touch(slot, warm bool) int {
	if warm {
		return 100
	}
	if slot {
		return 2100
	}
	return 2600
}

// storeCost is what Store promises of the cost.
func storeCost(original, current, value api.Word, warm bool) int {
	cost := 0
	if !warm {
		cost = 2100
	}
	if current == value {
		return cost + 100
	}
	if original != current {
		return cost + 100
	}
	if numberOf(original).Sign() == 0 {
		return cost + 20000
	}
	return cost + 2900
}

// storeBack is what Store promises of what may be given back.
func storeBack(original, current, value api.Word) int {
	is0 := func(w api.Word) bool { return numberOf(w).Sign() == 0 }
	if current == value {
		return 0
	}
	if original == current {
		if !is0(original) && is0(value) {
			return 4800
		}
		return 0
	}
	first, second := 0, 0
	if !is0(original) {
		if is0(current) {
			first = -4800
		} else if is0(value) {
			first = 4800
		}
	}
	if original == value {
		if is0(original) {
			second = 19900
		} else {
			second = 2800
		}
	}
	return first + second
}

// call is what Call promises.
func call(left int, asked api.Word, warm, value, fresh bool) (int, int, bool) {
	price := int64(touch(false, warm))
	if value {
		price += 9000
	}
	if value && fresh {
		price += 25000
	}
	limit := new(big.Int).Exp(big.NewInt(2), big.NewInt(53), nil)
	has := big.NewInt(int64(left))
	if has.Cmp(big.NewInt(price)) < 0 || has.Cmp(limit) > 0 || has.Sign() < 0 {
		return 0, 0, false
	}
	rest := new(big.Int).Sub(has, big.NewInt(price))
	most := new(big.Int).Sub(rest, new(big.Int).Quo(rest, big.NewInt(64)))
	own := numberOf(asked)
	if own.Cmp(most) > 0 {
		own = most
	}
	cost := new(big.Int).Add(big.NewInt(price), own)
	if value {
		own = new(big.Int).Add(own, big.NewInt(2300))
	}
	return int(cost.Int64()), int(own.Int64()), true
}

// start is what Start promises.
func start(data string, create bool) int {
	cost := 21000
	bytes := counted(len(data))
	for i := 0; i < bytes; i++ {
		if data[i] == 0 {
			cost += 4
		} else {
			cost += 16
		}
	}
	if create {
		cost += 32000 + initial(bytes, false)
	}
	return cost
}

// declared is what Declared promises: each key counts, if it is the same as none that comes ahead of it, in Reads or in Writes.
func declared(s api.Sets) int {
	var all []api.Key
	all = append(all, s.Reads...)
	all = append(all, s.Writes...)
	cost := 0
	for i, k := range all {
		if among(all[:i], k) {
			continue
		}
		if k.Slot {
			cost += 1900
		} else {
			cost += 2400
		}
	}
	return cost
}

// among tells whether a key is one of those.
func among(keys []api.Key, k api.Key) bool {
	for _, other := range keys {
		if other.At == k.At && other.Slot == k.Slot && numberOf(other.Key).Cmp(numberOf(k.Key)) == 0 {
			return true
		}
	}
	return false
}

// back is what Back promises.
func back(used, refund int) int {
	fifth := new(big.Int).Div(big.NewInt(int64(used)), big.NewInt(5)) // rounded down, below 0, too
	out := big.NewInt(int64(refund))
	if out.Cmp(fifth) > 0 {
		out = fifth
	}
	if out.Sign() < 0 {
		return 0
	}
	return int(out.Int64())
}
