package gas

import "railhead/api"

const (
	touched      = 100 // whatever it is, once it was touched
	newSlot      = 2100
	newAccount   = 2600
	setting      = 20000 // a slot that was 0 ahead of the transaction
	changing     = 2900  // another one
	clearing     = 4800  // is given back for a slot that is 0 now
	sending      = 9000
	founding     = 25000
	starting     = 21000
	creating     = 32000
	declared     = 2400 // an account
	declaredSlot = 1900
	nothing      = 4 // a byte 0 that a transaction brings
	something    = 16
	raisedByte   = 50
	copiedWord   = 3
	hashedWord   = 6
	toldByte     = 8
	creatingWord = 2
)

// written is what it costs to write a slot that was touched. What writes over a change is cheap.
func written(original, current, value api.Word) int {
	if current == value || original != current {
		return touched
	}
	return firstChange(original)
}

// firstChange is what it costs to change a slot that is as it was originally.
func firstChange(original api.Word) int {
	if original == (api.Word{}) {
		return setting
	}
	return changing
}

// refunded is what may be given back for a slot that is written.
func refunded(original, current, value api.Word) int {
	if current == value {
		return 0
	}
	return cleared(original, current, value) + restored(original, current, value)
}

// cleared is what may be given back for a slot that was not 0 originally, and is 0 now; it is taken again, once the slot is 0 no more.
func cleared(original, current, value api.Word) int {
	none := api.Word{}
	switch {
	case original == none:
		return 0
	case current == none:
		return -clearing
	case value == none:
		return clearing
	}
	return 0
}

// restored is what may be given back for a slot that was changed, and is as it was originally now: what its first change cost more than one that is none.
func restored(original, current, value api.Word) int {
	if original == current || original != value {
		return 0
	}
	return firstChange(original) - touched
}

// calling is the price of a call, but for what it gives to what is called.
func calling(warm, value, fresh bool) int {
	price := Touch(false, warm)
	if value {
		price += sending
	}
	if value && fresh {
		price += founding
	}
	return price
}

// ofByte is what a byte costs that a transaction brings.
func ofByte(b byte) int {
	if b == 0 {
		return nothing
	}
	return something
}

// ofKey is what a key costs that is declared.
func ofKey(k api.Key) int {
	if k.Slot {
		return declaredSlot
	}
	return declared
}
