package keccak_test

import "railhead/api"

// bits are lanes, a bit each: [x][y][z]. With them rounds are done just as the chapter tells them, so that what is expected leans on nothing of the package.
type bits [5][5][64]byte

// around is n modulo m, also for n below 0.
func around(n, m int) int { return (n%m + m) % m }

func (b *bits) at(x, y, z int) byte { return b[around(x, 5)][around(y, 5)][around(z, 64)] }

// each is a bit for each place.
func each(bit func(x, y, z int) byte) *bits {
	made := new(bits)
	for x := range 5 {
		for y := range 5 {
			for z := range 64 {
				made[x][y][z] = bit(x, y, z)
			}
		}
	}
	return made
}

func toBits(a api.Lanes) *bits {
	return each(func(x, y, z int) byte { return byte(a[5*y+x] >> z & 1) })
}

func (b *bits) lanes() api.Lanes {
	var a api.Lanes
	for x := range 5 {
		for y := range 5 {
			for z := range 64 {
				a[5*y+x] |= uint64(b[x][y][z]) << z
			}
		}
	}
	return a
}

func theta(b *bits) *bits {
	var columns [5][64]byte
	for x := range 5 {
		for y := range 5 {
			for z := range 64 {
				columns[x][z] ^= b[x][y][z]
			}
		}
	}
	return each(func(x, y, z int) byte {
		return b[x][y][z] ^ columns[around(x-1, 5)][z] ^ columns[around(x+1, 5)][around(z-1, 64)]
	})
}

// turns are how far rho turns each lane: [x][y].
func turns() [5][5]int {
	var r [5][5]int
	for x, y, t := 1, 0, 0; t < 24; t++ {
		r[x][y] = (t + 1) * (t + 2) / 2
		x, y = y, (2*x+3*y)%5
	}
	return r
}

func rho(b *bits) *bits {
	r := turns()
	return each(func(x, y, z int) byte { return b.at(x, y, z-r[x][y]) })
}

func pi(b *bits) *bits {
	return each(func(x, y, z int) byte { return b.at(x+3*y, x, z) })
}

func chi(b *bits) *bits {
	return each(func(x, y, z int) byte { return b.at(x, y, z) ^ b.at(x+2, y, z)&(1^b.at(x+1, y, z)) })
}

func iota(b *bits, round int) *bits {
	made := *b
	for j := range 7 {
		made[0][0][1<<j-1] ^= rc(j + 7*round)
	}
	return &made
}

func rc(t int) byte {
	r := [9]byte{0: 1}
	for range t {
		copy(r[1:], r[:8])
		r[0] = 0
		for _, to := range []int{0, 4, 5, 6} {
			r[to] ^= r[8]
		}
	}
	return r[0]
}

// permuted is a behind so many rounds.
func permuted(a api.Lanes, rounds int) api.Lanes {
	b := toBits(a)
	for i := range rounds {
		b = iota(chi(pi(rho(theta(b)))), i)
	}
	return b.lanes()
}

// undone is what a was ahead of the rounds 0 to 23.
func undone(a api.Lanes) api.Lanes {
	b := toBits(a)
	r := turns()
	for i := 23; i >= 0; i-- {
		b = unchi(iota(b, i)) // iota undoes itself
		c := b
		b = each(func(x, y, z int) byte { return c.at(y, 2*(x-y), z) }) // pi: its x is this y, its x + 3y this x
		d := b
		b = each(func(x, y, z int) byte { return d.at(x, y, z+r[x][y]) })
		for range 191 { // 192 thetas change nothing
			b = theta(b)
		}
	}
	return b.lanes()
}

// unchi looks up for each row of bits which one chi makes it of: rows are changed each by itself, and no two to the same.
func unchi(b *bits) *bits {
	var of [32]int
	for row := range 32 {
		made := chi(each(func(x, _, _ int) byte { return byte(row >> x & 1) }))
		of[rowAt(made, 0, 0)] = row
	}
	return each(func(x, y, z int) byte { return byte(of[rowAt(b, y, z)] >> x & 1) })
}

func rowAt(b *bits, y, z int) int {
	row := 0
	for x := range 5 {
		row |= int(b[x][y][z]) << x
	}
	return row
}
