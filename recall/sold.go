package recall

import (
	"meniscus/api"
	"meniscus/lists"
)

// What is in the place of the latest day of a next sale: noDay, if not all sales
// that are left can be done, and never, if none is left.
const (
	noDay = -1
	never = api.MaxRecallDay + 1
)

// sold is a batch with all ways that its sales can have gone, each sale on the
// first day that it can have, and for each way the latest day of the next sale,
// if all that are left are to be done.
type sold struct {
	Batch
	gone map[way]int
}

// sell reports as well whether the batch has a truth.
func sell(b Batch) (sold, bool) {
	s := sold{Batch: b, gone: map[way]int{}}
	var follow func(w way)
	follow = func(w way) {
		if _, known := s.gone[w]; known {
			return
		}
		latest := noDay
		if w.done == s.allDone() {
			latest = never
		}
		for sale, then := range s.next(w) {
			follow(then)
			if days := s.days(sale, then); days.areSome() {
				latest = lists.Greatest(latest, days.Hi)
			}
		}
		s.gone[w] = latest
	}
	start := way{}
	follow(start)
	return s, s.gone[start] != noDay
}

// open sells the batch for a call that has an error if what it asks for is not in
// range.
func open(b Batch, inRange bool) (sold, api.Errno) {
	if e := b.check(); e != api.OK {
		return sold{}, e
	}
	if !inRange {
		return sold{}, api.ErrRange
	}
	s, hasTruth := sell(b)
	if !hasTruth {
		return sold{}, api.ErrFail
	}
	return s, api.OK
}

// days are all that the sale can have if it leads to the way: none, if the way
// leads to no truth.
func (s sold) days(sale int, then way) Range {
	return Range{Lo: then.day, Hi: lists.Least(s.gone[then], s.Sales[sale].Days.Hi)}
}

// truth takes the first sale that leads to a truth, and so on.
func (s sold) truth() (order, days []int) {
	days = make([]int, len(s.Sales))
	var find func(w way)
	find = func(w way) {
		for sale, then := range s.next(w) {
			if s.days(sale, then).areSome() {
				order = append(order, sale)
				days[sale] = then.day
				find(then)
				return
			}
		}
	}
	find(way{})
	return order, days
}

func (s sold) when(sale int) Range {
	var list []Range
	for w := range s.gone {
		if then, can := s.then(w, sale); can && s.days(sale, then).areSome() {
			list = append(list, s.days(sale, then))
		}
	}
	return span(list)
}

// holds looks at the ways that can have come so far on the evening of the day,
// and no further before the next one.
func (s sold) holds(owner, day int) Range {
	var list []Range
	for w, latest := range s.gone {
		if w.day <= day && day < latest {
			many := s.behind(w.done)[owner]
			list = append(list, Range{Lo: many, Hi: many})
		}
	}
	return span(list)
}

func (s sold) reach(day int) (can, surely []int) {
	for owner := range s.Owners {
		held := s.holds(owner, day)
		if held.Hi > 0 {
			can = append(can, owner)
		}
		if held.Lo > 0 {
			surely = append(surely, owner)
		}
	}
	return can, surely
}
