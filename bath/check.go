package bath

import (
	"meniscus/api"
	"meniscus/lists"
)

func (r Range) has(number int) bool { return r.Lo <= number && number <= r.Hi }

func (r Range) liesIn(lo, hi int) bool { return lo <= r.Lo && r.Lo <= r.Hi && r.Hi <= hi }

func isOffset(r Range) bool { return r.liesIn(-api.MaxBathOffset, api.MaxBathOffset) }

func isHeat(r Range) bool { return r.liesIn(0, api.MaxBathHeat) }

// valid reports whether a series with no more instruments and baths than there
// may be is valid.
func (s Series) valid() bool {
	return len(s.Offsets) > 0 && lists.All(s.Offsets, isOffset) &&
		0 <= s.Error && s.Error <= api.MaxBathError && lists.All(s.Baths, s.allows)
}

func (s Series) hasInstrument(number int) bool { return 0 <= number && number < len(s.Offsets) }

// allows reports whether the bath is one of the series. As no instrument is
// twice in it, it has no more readings than there are instruments.
func (s Series) allows(b Bath) bool {
	return isHeat(b.Heat) && lists.All(b.Reads, s.allowsReading) && b.readsEachOnce()
}

func (s Series) allowsReading(r Reading) bool {
	return s.hasInstrument(r.Instrument) && -api.MaxBathHeat <= r.Value && r.Value <= 2*api.MaxBathHeat
}

func (b Bath) readsEachOnce() bool {
	read := map[int]bool{}
	for _, r := range b.Reads {
		if read[r.Instrument] {
			return false
		}
		read[r.Instrument] = true
	}
	return true
}

// has reports whether the offsets and the heats are in the ranges of the series.
func (s Series) has(offsets, heats []int) bool {
	if len(offsets) != len(s.Offsets) || len(heats) != len(s.Baths) {
		return false
	}
	for instrument, offset := range offsets {
		if !s.Offsets[instrument].has(offset) {
			return false
		}
	}
	for bath, heat := range heats {
		if !s.Baths[bath].Heat.has(heat) {
			return false
		}
	}
	return true
}

// valid reports whether a works with no more instruments than there may be is
// valid.
func (w Works) valid() bool {
	return len(w.Ranges) > 0 && lists.All(w.Ranges, isHeat) &&
		2 <= w.Room && w.Room <= api.MaxBathInstruments && 1 <= w.Steps && w.Steps <= api.MaxBathSteps
}

func (w Works) hasInstrument(number int) bool { return 0 <= number && number < len(w.Ranges) }

// allows reports whether the dip is one of the works.
func (w Works) allows(d Dip) bool {
	if len(d.Instruments) < 2 || len(d.Instruments) > w.Room || !lists.Rises(d.Instruments) {
		return false
	}
	return lists.All(d.Instruments, w.hasInstrument) &&
		lists.All(d.Instruments, func(number int) bool { return w.Ranges[number].has(d.Heat) })
}
