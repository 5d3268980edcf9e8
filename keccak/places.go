package keccak

// width is how many lanes a row has, and how many rows there are.
const width = 5

// place is where a lane is: which one, of which row.
type place struct{ x, y uint }

// lane is a place's number among all lanes.
func (p place) lane() uint { return width*p.y + p.x }

// beside is the place of the same row that is so many further on, fewer than a row has; from the row's end it goes round.
func (p place) beside(on uint) place {
	x := p.x + on
	if x >= width {
		x -= width
	}
	return place{x, p.y}
}

// next is the place to which a step goes.
func (p place) next() place { return place{p.y, (2*p.x + 3*p.y) % width} }

// places goes through all places, in the order in which the lanes stand.
func places(yield func(place) bool) {
	for y := range uint(width) {
		for x := range uint(width) {
			if !yield(place{x, y}) {
				return
			}
		}
	}
}

// walk goes through all places but (0, 0), from (1, 0) on by steps, and tells how far rho turns the lane of each; that of (0, 0) stays as it is.
func walk(yield func(int, place) bool) {
	p := place{1, 0}
	for t := range width*width - 1 {
		if !yield((t+1)*(t+2)/2, p) {
			return
		}
		p = p.next()
	}
}
