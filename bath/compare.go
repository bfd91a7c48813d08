package bath

import (
	"iter"

	"meniscus/api"
	"meniscus/gaps"
)

// readings are those of all baths, with their places.
func (s Series) readings() iter.Seq2[Place, Reading] {
	return func(yield func(Place, Reading) bool) {
		for bath, b := range s.Baths {
			for read, r := range b.Reads {
				if !yield(Place{Bath: bath, Read: read}, r) {
					return
				}
			}
		}
	}
}

// compared is a series with all that its ranges and its readings say together.
// The first one of its things stands at 0. Behind it each instrument stands at
// its offset, and each bath as far below 0 as its heat is above: so a reading
// tells how far an instrument is apart from a bath.
type compared struct {
	Series
	gaps.Gaps
}

func (s Series) thingOfInstrument(number int) int { return 1 + number }

func (s Series) thingOfBath(number int) int { return 1 + len(s.Offsets) + number }

// unread is the series without readings.
func unread(s Series) compared {
	stands := append([]Range{{}}, s.Offsets...)
	for _, b := range s.Baths {
		stands = append(stands, Range{Lo: -b.Heat.Hi, Hi: -b.Heat.Lo})
	}
	c := compared{Series: s, Gaps: gaps.Gaps{Things: len(stands)}}
	for low, from := range stands {
		for high, to := range stands {
			if low != high {
				c.Most[low][high] = to.Hi - from.Lo
			}
		}
	}
	return c
}

func everyReading(Reading) bool { return true }

// compare believes the readings that it is told to, and reports whether they
// have a truth.
func compare(s Series, believed func(Reading) bool) (compared, bool) {
	c := unread(s)
	for place, r := range s.readings() {
		if believed(r) && !c.believe(place.Bath, r) {
			return compared{}, false
		}
	}
	return c, true
}

// compareAll compares for a call whose other arguments are in range, or not:
// this is asked behind the series, and before whether it contradicts itself.
func compareAll(s Series, inRange bool) (compared, api.Errno) {
	if e := CheckSeries(s); e != api.OK {
		return compared{}, e
	}
	if !inRange {
		return compared{}, api.ErrRange
	}
	c, ok := compare(s, everyReading)
	if !ok {
		return compared{}, api.ErrFail
	}
	return c, api.OK
}

// believe notes the reading, or reports that it cannot be right.
func (c *compared) believe(bath int, r Reading) bool {
	from, to := c.thingOfBath(bath), c.thingOfInstrument(r.Instrument)
	return c.Limit(from, to, r.Value+c.Error) && c.Limit(to, from, c.Error-r.Value)
}

func (c *compared) canBelieve(bath int, r Reading) bool {
	from, to := c.thingOfBath(bath), c.thingOfInstrument(r.Instrument)
	return c.Can(from, to, r.Value+c.Error) && c.Can(to, from, c.Error-r.Value)
}

// canAgree reports whether both readings of a bath can be right together, as far
// as the offsets of their instruments tell.
func (c *compared) canAgree(r, other Reading) bool {
	from, to := c.thingOfInstrument(other.Instrument), c.thingOfInstrument(r.Instrument)
	more := r.Value - other.Value
	return c.Can(from, to, more+2*c.Error) && c.Can(to, from, 2*c.Error-more)
}

// ends tell both ends of where a thing stands.
type ends struct {
	lo, hi func(c *compared, thing int) int
}

func bothEnds() ends { return ends{lo: (*compared).Lowest, hi: (*compared).Highest} }

func (c *compared) offset(instrument int) Range {
	e, thing := bothEnds(), c.thingOfInstrument(instrument)
	return Range{Lo: e.lo(c, thing), Hi: e.hi(c, thing)}
}

func (c *compared) heat(bath int) Range {
	e, thing := bothEnds(), c.thingOfBath(bath)
	return Range{Lo: -e.hi(c, thing), Hi: -e.lo(c, thing)}
}

func (c *compared) difference(first, second int) Range {
	to, from := c.thingOfInstrument(first), c.thingOfInstrument(second)
	return Range{Lo: -c.Most[to][from], Hi: c.Most[from][to]}
}
