package cert

import (
	"meniscus/api"
	"meniscus/bore"
	"meniscus/point"
)

// whole is the height of steam, in thousandths, at which each mark is right in
// an even tube.
const whole = 1000

// driftDays are the days in which the zero rises by the Drift.
const driftDays = 100

// share is a number that is not below 0, and need not be whole.
type share struct{ above, below int }

func (s share) down() int { return s.above / s.below }

func (s share) up() int { return (s.above + s.below - 1) / s.below }

// ends tell the whole numbers at which bounds end.
type ends struct {
	lo, hi func(s share) int
}

func bothEnds() ends { return ends{lo: share.down, hi: share.up} }

// around is the range of whole numbers that leaves nothing between both out.
func around(least, greatest share) Range {
	e := bothEnds()
	return Range{Lo: e.lo(least), Hi: e.hi(greatest)}
}

// allMarks has the bounds of all marks; what is behind the last one is not used.
type allMarks [api.MaxBoreCells + 1]Range

// freshMarks are the bounds of the marks while the zero has not risen. What the
// bore and the pressure are does not hang on each other.
func freshMarks(heights []bore.Range, steam point.Range, total int) allMarks {
	var m allMarks
	for mark, h := range heights {
		m[mark] = around(share{above: h.Lo * steam.Lo, below: total}, share{above: h.Hi * steam.Hi, below: total})
	}
	return m
}

// readInstrument is an instrument that was read: it is valid, and its readings
// do not contradict each other.
type readInstrument struct {
	Instrument
	fresh allMarks
}

// risen is by how many thousandths the zero can have risen on the day.
func (r readInstrument) risen(day int) Range {
	return around(share{above: r.Drift.Lo * day, below: driftDays}, share{above: r.Drift.Hi * day, below: driftDays})
}

// bounds takes off whole numbers only, so the ends need not be rounded again.
func (r readInstrument) bounds(mark, day int) Range {
	risen := r.risen(day)
	return Range{Lo: r.fresh[mark].Lo - risen.Hi, Hi: r.fresh[mark].Hi - risen.Lo}
}

func (r readInstrument) correction(mark, day int) Range {
	tells := share{above: whole * mark, below: r.Tube.Cells}.down()
	b := r.bounds(mark, day)
	return Range{Lo: b.Lo - tells, Hi: b.Hi - tells}
}

// ofAllMarks are the ranges that each mark has on the day.
func ofAllMarks(x Instrument, day int, of func(r readInstrument, mark, day int) Range) ([]Range, api.Errno) {
	r, e := readOn(x, day)
	if e != api.OK {
		return nil, e
	}
	list := make([]Range, 0, r.Tube.Cells+1)
	for mark := 0; mark <= r.Tube.Cells; mark++ {
		list = append(list, of(r, mark, day))
	}
	return list, api.OK
}
