package keccak

import (
	"math/bits"

	"railhead/api"
)

// constants are what iota adds in the rounds 0 to 23: the bits rc, each at its place of the lane (0, 0).
var constants = [24]uint64{
	0x0000000000000001, 0x0000000000008082, 0x800000000000808a, 0x8000000080008000,
	0x000000000000808b, 0x0000000080000001, 0x8000000080008081, 0x8000000000008009,
	0x000000000000008a, 0x0000000000000088, 0x0000000080008009, 0x000000008000000a,
	0x000000008000808b, 0x800000000000008b, 0x8000000000008089, 0x8000000000008003,
	0x8000000000008002, 0x8000000000000080, 0x000000000000800a, 0x800000008000000a,
	0x8000000080008081, 0x8000000000008080, 0x0000000080000001, 0x8000000080008008,
}

// theta adds to each lane the sums of the columns at both its sides, the one of those further on turned by a bit.
func theta(a *api.Lanes) {
	var sums [width]uint64
	for p := range places {
		sums[p.x] ^= a[p.lane()]
	}
	for p := range places {
		a[p.lane()] ^= sums[p.beside(width-1).x] ^ bits.RotateLeft64(sums[p.beside(1).x], 1)
	}
}

// turned are rho and pi at once: where pi takes a lane is where the walk goes to next.
func turned(a *api.Lanes) api.Lanes {
	made := api.Lanes{a[0]}
	for turn, p := range walk {
		made[p.next().lane()] = bits.RotateLeft64(a[p.lane()], turn)
	}
	return made
}

// mixed is chi.
func mixed(a *api.Lanes) api.Lanes {
	var made api.Lanes
	for p := range places {
		made[p.lane()] = a[p.lane()] ^ a[p.beside(2).lane()]&^a[p.beside(1).lane()]
	}
	return made
}
