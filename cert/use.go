package cert

import (
	"iter"
	"slices"
	"sort"

	"meniscus/api"
	"meniscus/lists"
)

func (u Use) marks() iter.Seq[int] {
	return func(yield func(int) bool) {
		for mark := u.From; mark <= u.To; mark++ {
			if !yield(mark) {
				return
			}
		}
	}
}

func (u Use) isLowEnough(correction Range) bool { return correction.Hi <= u.Within }

func (u Use) isHighEnough(correction Range) bool { return correction.Lo >= -u.Within }

func (u Use) keeps(correction Range) bool {
	return u.isLowEnough(correction) && u.isHighEnough(correction)
}

// asked is an instrument that was read, with one of its uses.
type asked struct {
	readInstrument
	Use
}

// corrections are those of the marks of the use.
func (a asked) corrections(day int) []Range {
	list := make([]Range, 0, a.To-a.From+1)
	for mark := range a.marks() {
		list = append(list, a.correction(mark, day))
	}
	return list
}

func (a asked) isKept(day int) bool { return lists.All(a.corrections(day), a.keeps) }

// days are those on which the use is kept, if there are some. As marks only get
// lower, they are low enough from some day on, and high enough up to some day.
func (a asked) days() (Range, bool) {
	first := sort.Search(api.MaxCertDay+1, func(day int) bool {
		return lists.All(a.corrections(day), a.isLowEnough)
	})
	end := sort.Search(api.MaxCertDay+1, func(day int) bool {
		return !lists.All(a.corrections(day), a.isHighEnough)
	})
	return Range{Lo: first, Hi: end - 1}, first < end
}

// noDay is before all days.
const noDay = -1

// lastDay is the last one on which the use is kept, if it is kept on this day.
func (a asked) lastDay(day int) int {
	days, ok := a.days()
	if !ok || !days.has(day) {
		return noDay
	}
	return days.Hi
}

// best is the first one of those that keep the use on the day, and longest, and
// up to which day it does. It reports whether there is one.
func best(l []asked, day int) (which, last int, ok bool) {
	lasts := make([]int, 0, len(l))
	for _, a := range l {
		lasts = append(lasts, a.lastDay(day))
	}
	last = lists.Greatest(noDay, lasts...)
	return slices.Index(lasts, last), last, last != noDay
}
