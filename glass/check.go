package glass

import (
	"meniscus/api"
	"meniscus/lists"
)

func (r Range) has(number int) bool { return r.Lo <= number && number <= r.Hi }

func (r Range) liesIn(lo, hi int) bool { return lo <= r.Lo && r.Lo <= r.Hi && r.Hi <= hi }

func (b Band) valid() bool {
	return 0 <= b.From && b.From <= api.MaxGlassDays && b.Creep.liesIn(0, api.MaxGlassCreep)
}

func (b Band) mayPrecede(next Band) bool { return b.From < next.From }

func (d Depth) valid() bool {
	return 0 <= d.From && d.From <= api.MaxGlassHeat && 0 <= d.Sink && d.Sink <= api.MaxGlassSink
}

func (d Depth) mayPrecede(next Depth) bool { return d.From < next.From && d.Sink <= next.Sink }

// valid reports whether a glass with no more bands and depths than there may be
// is valid.
func (g Glass) valid() bool {
	return -api.MaxGlassBase <= g.Base && g.Base <= api.MaxGlassBase &&
		g.bandsValid() && g.depthsValid() && g.Back.liesIn(0, api.MaxGlassBack)
}

func (g Glass) bandsValid() bool {
	return len(g.Bands) > 0 && g.Bands[0].From == 0 &&
		lists.All(g.Bands, Band.valid) && lists.InOrder(g.Bands, Band.mayPrecede)
}

func (g Glass) depthsValid() bool {
	return len(g.Depths) > 0 &&
		lists.All(g.Depths, Depth.valid) && lists.InOrder(g.Depths, Depth.mayPrecede)
}

func isHeat(r Range) bool { return r.liesIn(0, api.MaxGlassHeat) }

// allowsIce reports whether the ice is one of the history.
func (h readHistory) allowsIce(i Ice) bool {
	return 0 <= i.Day && i.Day < len(h.days) &&
		-api.MaxGlassZero <= i.Zero && i.Zero <= api.MaxGlassZero &&
		0 <= i.Error && i.Error <= api.MaxGlassError
}

// allows reports whether the truth is one of the history.
func (h readHistory) allows(t Truth) bool {
	if len(t.Heats) != len(h.days) || len(t.Creeps) != len(h.days) || len(t.Backs) != len(h.days) {
		return false
	}
	for day := range len(h.days) {
		if !h.days[day].has(t.Heats[day]) || !h.creepOn(day).has(t.Creeps[day]) || !h.Back.has(t.Backs[day]) {
			return false
		}
	}
	return true
}

// read checks the glass, the history and the ices, in this order, and puts them
// together.
func read(g Glass, history []Range, ices []Ice) (readHistory, api.Errno) {
	if e := CheckGlass(g); e != api.OK {
		return readHistory{}, e
	}
	if len(history) > api.MaxGlassDays {
		return readHistory{}, api.ErrLimit
	}
	if len(history) == 0 || !lists.All(history, isHeat) {
		return readHistory{}, api.ErrRange
	}
	h := readHistory{Glass: g, days: history, ices: ices}
	if len(ices) > api.MaxGlassIces {
		return readHistory{}, api.ErrLimit
	}
	if !lists.All(ices, h.allowsIce) {
		return readHistory{}, api.ErrRange
	}
	return h, api.OK
}
