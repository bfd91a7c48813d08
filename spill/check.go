package spill

import (
	"meniscus/api"
	"meniscus/lists"
)

func (r Range) low() int { return r.Lo }

func (r Range) high() int { return r.Hi }

func (r Range) has(number int) bool { return r.Lo <= number && number <= r.Hi }

// isUpTo reports whether the range is one of numbers from 0 to the most.
func (r Range) isUpTo(most int) bool { return 0 <= r.Lo && r.Lo <= r.Hi && r.Hi <= most }

func (r Range) areGrams() bool { return r.isUpTo(api.MaxSpillGrams) }

func (r Range) isRate() bool { return r.isUpTo(api.MaxSpillRate) }

// and has the numbers that both have: if there are none, its Lo is above its Hi.
func (r Range) and(other Range) Range {
	return Range{Lo: lists.Greatest(r.Lo, other.Lo), Hi: lists.Least(r.Hi, other.Hi)}
}

func isFrom0To(most int) func(number int) bool { return Range{Hi: most}.has }

func (r Room) isValid() bool { return r.First.areGrams() && r.Vapour.isUpTo(api.MaxSpillVapour) }

func (w Works) hasRoom(number int) bool { return 0 <= number && number < len(w.Rooms) }

func (w Works) hasDay(number int) bool { return 0 <= number && number < w.Days }

func (w Works) isEndOfMove(number int) bool { return number == Outside || w.hasRoom(number) }

func (w Works) allowsMove(m Move) bool {
	return w.hasDay(m.Day) && w.isEndOfMove(m.From) && w.isEndOfMove(m.To) && m.From != m.To && m.Grams.areGrams()
}

func (w Works) allowsWeighing(x Weighing) bool {
	return w.hasRoom(x.Room) && w.hasDay(x.Day) && x.Grams.areGrams()
}

func (w Works) check() api.Errno {
	if len(w.Rooms) > api.MaxSpillRooms || len(w.Moves) > api.MaxSpillMoves || len(w.Weighings) > api.MaxSpillWeighings {
		return api.ErrLimit
	}
	if len(w.Rooms) < 1 || w.Days < 1 || w.Days > api.MaxSpillDays {
		return api.ErrArg
	}
	if !lists.All(w.Rooms, Room.isValid) || !lists.All(w.Moves, w.allowsMove) || !lists.All(w.Weighings, w.allowsWeighing) {
		return api.ErrArg
	}
	return api.OK
}

// eachHas reports whether there is one value for each of the things, and it has
// this value.
func eachHas[T, V any](things []T, values []V, has func(thing T, value V) bool) bool {
	if len(things) != len(values) {
		return false
	}
	for number, thing := range things {
		if !has(thing, values[number]) {
			return false
		}
	}
	return true
}

func (r Room) hasFirst(grams int) bool { return r.First.has(grams) }

func (m Move) hasGrams(grams int) bool { return m.Grams.has(grams) }

func (w Works) allowsTruth(t Truth) bool {
	hasVapours := func(r Room, days []int) bool { return len(days) == w.Days && lists.All(days, r.Vapour.has) }
	return eachHas(w.Rooms, t.Firsts, Room.hasFirst) && eachHas(w.Rooms, t.Vapours, hasVapours) && eachHas(w.Moves, t.Grams, Move.hasGrams)
}

func (w Works) allowsBook(b Book) bool {
	areGrams := isFrom0To(api.MaxSpillGrams)
	return len(b.Firsts) == len(w.Rooms) && len(b.Grams) == len(w.Moves) && lists.All(b.Firsts, areGrams) && lists.All(b.Grams, areGrams)
}

func (t Team) check() api.Errno {
	if len(t.Rates) > api.MaxSpillRooms {
		return api.ErrLimit
	}
	areHours, isLimit := isFrom0To(api.MaxSpillHours), isFrom0To(api.MaxSpillLimit)
	if len(t.Rates) < 1 || len(t.Hours) != len(t.Rates) || !isLimit(t.Limit) || !areHours(t.Most) {
		return api.ErrArg
	}
	if !lists.All(t.Rates, Range.isRate) || !lists.All(t.Hours, areHours) {
		return api.ErrArg
	}
	return api.OK
}
