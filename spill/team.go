package spill

import (
	"iter"

	"meniscus/api"
	"meniscus/lists"
)

// hours are those in each room; there are none in rooms that a team has not.
type hours [api.MaxSpillRooms]int

// shift are the hours of one apprentice.
type shift = hours

func (h hours) less(s shift) hours {
	for room := range h {
		h[room] -= s[room]
	}
	return h
}

// allows reports whether an apprentice can work these hours: whatever the rates
// are, the greatest ones let breathe most.
func (t Team) allows(s shift) bool {
	breathed := 0
	for room, rate := range t.Rates {
		breathed += s[room] * rate.Hi
	}
	return lists.Sum(s[:]...) <= t.Most && breathed <= t.Limit
}

// shifts are all that one apprentice can work of the hours that are left, each
// with what is left then.
func (t Team) shifts(left hours) iter.Seq2[shift, hours] {
	return func(yield func(s shift, left hours) bool) {
		var work func(room int, s shift) bool
		work = func(room int, s shift) bool {
			if !t.allows(s) {
				return true
			}
			if room == len(t.Rates) {
				return yield(s, left.less(s))
			}
			for s[room] = range left[room] + 1 {
				if !work(room+1, s) {
					return false
				}
			}
			return true
		}
		work(0, shift{})
	}
}

// roster reports as well whether any roster is right.
func (t Team) roster() ([][]int, bool) {
	var all hours
	copy(all[:], t.Hours)
	shifts, found := shortest(all, hours{}, t.shifts)
	if !found || len(shifts) > api.MaxSpillTeam {
		return nil, false
	}
	roster := make([][]int, len(shifts))
	for number, s := range shifts {
		roster[number] = append(roster[number], s[:len(t.Rates)]...)
	}
	return roster, true
}

func (t Team) isRight(roster [][]int) bool {
	if len(roster) > api.MaxSpillTeam {
		return false
	}
	var left hours
	copy(left[:], t.Hours)
	areHours := isFrom0To(t.Most)
	for _, list := range roster {
		if len(list) != len(t.Rates) || !lists.All(list, areHours) {
			return false
		}
		var s shift
		copy(s[:], list)
		if !t.allows(s) {
			return false
		}
		left = left.less(s)
	}
	return left == hours{}
}
