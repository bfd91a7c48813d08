package cert

import (
	"meniscus/api"
	"meniscus/bore"
	"meniscus/point"
)

func (r Range) has(number int) bool { return r.Lo <= number && number <= r.Hi }

func (r Range) liesIn(outer Range) bool {
	return r.Lo <= r.Hi && outer.has(r.Lo) && outer.has(r.Hi)
}

func upTo(most int) Range { return Range{Hi: most} }

func isDay(day int) bool { return upTo(api.MaxCertDay).has(day) }

func (x Instrument) hasMark(mark int) bool { return upTo(x.Tube.Cells).has(mark) }

// allows reports whether the use is one of the instrument.
func (x Instrument) allows(u Use) bool {
	return x.hasMark(u.From) && x.hasMark(u.To) && u.From <= u.To && upTo(api.MaxCertWithin).has(u.Within)
}

// read checks the instrument and reads it. The packages bore and point ask for
// limits behind other things, or of their own list only, so this is done first.
func read(x Instrument) (readInstrument, api.Errno) {
	if len(x.Readings) > api.MaxBoreReadings || len(x.Table) > api.MaxPointSteps {
		return readInstrument{}, api.ErrLimit
	}
	heights, e := bore.Heights(x.Tube, x.Readings)
	steam, f := point.Boils(x.Table, x.Pressures)
	contradicting := e == api.ErrFail
	if e != api.OK && !contradicting || f != api.OK || !x.Drift.liesIn(upTo(api.MaxCertDrift)) {
		return readInstrument{}, api.ErrArg
	}
	if contradicting {
		return readInstrument{}, api.ErrFail
	}
	return readInstrument{Instrument: x, fresh: freshMarks(heights, steam, x.Tube.Total)}, api.OK
}

func readOn(x Instrument, day int) (readInstrument, api.Errno) {
	r, e := read(x)
	if e != api.OK {
		return readInstrument{}, e
	}
	if !isDay(day) {
		return readInstrument{}, api.ErrRange
	}
	return r, api.OK
}

func ask(x Instrument, u Use) (asked, api.Errno) {
	r, e := read(x)
	if e != api.OK {
		return asked{}, e
	}
	if !r.allows(u) {
		return asked{}, api.ErrRange
	}
	return asked{readInstrument: r, Use: u}, api.OK
}

func askOn(x Instrument, u Use, day int) (asked, api.Errno) {
	a, e := ask(x, u)
	if e != api.OK {
		return asked{}, e
	}
	if !isDay(day) {
		return asked{}, api.ErrRange
	}
	return a, api.OK
}

func askAll(l []Instrument, u Use) ([]asked, api.Errno) {
	all := make([]asked, 0, len(l))
	for _, x := range l {
		a, e := ask(x, u)
		if e != api.OK {
			return nil, e
		}
		all = append(all, a)
	}
	return all, api.OK
}

// judge asks for a use that is kept on the day, for calls that leave readings
// out.
func judge(x Instrument, u Use, day int) (judged, api.Errno) {
	a, e := askOn(x, u, day)
	if e != api.OK {
		return judged{}, e
	}
	if !a.isKept(day) {
		return judged{}, api.ErrBound
	}
	return judged{asked: a, day: day, kept: map[picked]bool{}}, api.OK
}
