package glass

import (
	"iter"
	"slices"

	"meniscus/lists"
)

// state is all of a day that the zeros of the days behind it depend on.
type state struct{ rise, sink int }

// readHistory is a glass, between which heats each day was, and what ice told.
type readHistory struct {
	Glass
	days []Range
	ices []Ice
}

// sinks is how deep the zero sinks by a heat.
func (g Glass) sinks(heat int) int {
	sink := 0
	for _, d := range g.Depths {
		if d.From <= heat {
			sink = d.Sink
		}
	}
	return sink
}

func (g Glass) creepOn(day int) Range {
	var creep Range
	for _, b := range g.Bands {
		if b.From <= day {
			creep = b.Creep
		}
	}
	return creep
}

// sinkBehind is the sink of a day behind one with the sink before it.
func (g Glass) sinkBehind(before, back, heat int) int {
	return lists.Greatest(0, before-back, g.sinks(heat))
}

func (g Glass) zero(s state) int { return g.Base + s.rise - s.sink }

func (h readHistory) play(t Truth) played {
	list := make(played, 0, len(h.days))
	var s state
	for day := range len(h.days) {
		s.rise += t.Creeps[day]
		s.sink = h.sinkBehind(s.sink, t.Backs[day], t.Heats[day])
		list = append(list, h.zero(s))
	}
	return list
}

// heatsThatTell are heats of the day, one at least for each depth that it can
// have reached.
func (h readHistory) heatsThatTell(day int) []int {
	r := h.days[day]
	heats := []int{r.Lo}
	for _, d := range h.Depths {
		if r.has(d.From) {
			heats = append(heats, d.From)
		}
	}
	return heats
}

// sinksBehind are all sinks that the day can have behind one with the sink
// before it.
func (h readHistory) sinksBehind(before, day int) []int {
	var sinks []int
	for _, heat := range h.heatsThatTell(day) {
		for back := h.Back.Lo; back <= h.Back.Hi; back++ {
			sinks = append(sinks, h.sinkBehind(before, back, heat))
		}
	}
	slices.Sort(sinks)
	return slices.Compact(sinks)
}

// next are the states that the day can have behind a day with the state s.
func (h readHistory) next(s state, day int) iter.Seq[state] {
	return func(yield func(state) bool) {
		creep := h.creepOn(day)
		for _, sink := range h.sinksBehind(s.sink, day) {
			for rise := s.rise + creep.Lo; rise <= s.rise+creep.Hi; rise++ {
				if !yield(state{rise: rise, sink: sink}) {
					return
				}
			}
		}
	}
}

// walk tells for each day which states it can have, and with each of them which
// ices can be false up to this day: one walk tells of all lists of ices, so that
// none of them needs one of its own.
func (h readHistory) walk() []map[state]outs {
	list := make([]map[state]outs, 0, len(h.days))
	before := map[state]outs{{}: noneOut()}
	for day := range len(h.days) {
		states := map[state]outs{}
		for s, o := range before {
			for to := range h.next(s, day) {
				states[to] = states[to].or(o)
			}
		}
		for s, o := range states {
			states[s] = o.with(h.falseOn(day, h.zero(s)))
		}
		list = append(list, states)
		before = states
	}
	return list
}

// zerosOfDays are for each day the zeros that it has in truths in which all ices
// are true. It walks back, as a day can have states from which none of these
// truths goes on.
func (h readHistory) zerosOfDays() []zeros {
	walked := h.walk()
	list := make([]zeros, len(h.days))
	kept := map[state]bool{}
	for day := len(h.days) - 1; day >= 0; day-- {
		now := map[state]bool{}
		for s, o := range walked[day] {
			if o.has(leftOut{}) && h.goesOn(s, day, kept) {
				now[s] = true
				list[day] = append(list[day], h.zero(s))
			}
		}
		kept = now
	}
	return list
}

// goesOn reports whether one of the states of the day behind this one can come
// behind s.
func (h readHistory) goesOn(s state, day int, behind map[state]bool) bool {
	if day == len(h.days)-1 {
		return true
	}
	for to := range h.next(s, day+1) {
		if behind[to] {
			return true
		}
	}
	return false
}
