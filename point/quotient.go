package point

// quotient is a number that need not be whole; below is above 0.
type quotient struct{ above, below int }

// down is the greatest whole number that is not above the quotient. Go's
// division goes towards 0, which is up for what is below 0.
func (q quotient) down() int {
	n := q.above / q.below
	if q.above%q.below < 0 {
		n--
	}
	return n
}

// up is the least whole number that is not below the quotient.
func (q quotient) up() int {
	return -quotient{above: -q.above, below: q.below}.down()
}

// ends tell the whole numbers at which a range between two quotients ends.
type ends struct {
	lo, hi func(q quotient) int
}

// outward ends leave nothing between the quotients out.
func outward() ends { return ends{lo: quotient.down, hi: quotient.up} }

// inward ends let nothing in that is not between the quotients.
func inward() ends { return ends{lo: quotient.up, hi: quotient.down} }

func (e ends) of(lo, hi quotient) Range { return Range{Lo: e.lo(lo), Hi: e.hi(hi)} }
