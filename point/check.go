package point

import (
	"meniscus/api"
	"meniscus/lists"
)

func (r Range) has(number int) bool { return r.Lo <= number && number <= r.Hi }

// liesIn reports whether r is a range with ends of the outer one.
func (r Range) liesIn(outer Range) bool {
	return r.Lo <= r.Hi && outer.has(r.Lo) && outer.has(r.Hi)
}

// upTo are the numbers that are at most so far from 0.
func upTo(most int) Range { return Range{Lo: -most, Hi: most} }

func boundsOfReadings() Range { return upTo(api.MaxPointReading) }

func (s Scale) valid() bool {
	degrees := upTo(api.MaxPointDegree)
	return degrees.has(s.Ice) && degrees.has(s.Steam) && s.Ice != s.Steam
}

func (s Step) valid() bool {
	pressures, heights := Range{Lo: 1, Hi: api.MaxPointPressure}, Range{Lo: 1, Hi: api.MaxPointSteam}
	return pressures.has(s.Pressure) && heights.has(s.Height)
}

func (s Step) mayPrecede(next Step) bool {
	return s.Pressure < next.Pressure && s.Height < next.Height
}

// entryBounds are those of the numbers of an entry.
type entryBounds struct{ reads, known Range }

func boundsOfEntries() entryBounds {
	return entryBounds{reads: boundsOfReadings(), known: upTo(api.MaxPointHeight)}
}

func (b entryBounds) allow(e Entry) bool {
	return b.reads.has(e.Reads) && e.Known.liesIn(b.known)
}

func checkScales(l []Scale) api.Errno {
	if len(l) > api.MaxPointScales {
		return api.ErrLimit
	}
	if !lists.All(l, Scale.valid) {
		return api.ErrArg
	}
	return api.OK
}

// checkReadings checks the scales, and readings on the first one.
func checkReadings(r Range, l ...Scale) api.Errno {
	if e := checkScales(l); e != api.OK {
		return e
	}
	if len(l) == 0 {
		return api.ErrArg
	}
	if !r.liesIn(boundsOfReadings()) {
		return api.ErrRange
	}
	return api.OK
}

func checkTable(table []Step) api.Errno {
	if len(table) > api.MaxPointSteps {
		return api.ErrLimit
	}
	if len(table) < 2 || !lists.All(table, Step.valid) || !lists.InOrder(table, Step.mayPrecede) {
		return api.ErrArg
	}
	return api.OK
}

func checkDiary(l []Scale, diary []Entry) api.Errno {
	if len(diary) > api.MaxPointEntries {
		return api.ErrLimit
	}
	if e := checkScales(l); e != api.OK {
		return e
	}
	if !lists.All(diary, boundsOfEntries().allow) {
		return api.ErrRange
	}
	return api.OK
}
