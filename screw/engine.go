package screw

import (
	"iter"

	"meniscus/lists"
)

// turn are the ticks of one turn, with their phases. The screw can end within
// its last turn.
func (s Screw) turn(first int) iter.Seq2[int, int] {
	return func(yield func(phase, tick int) bool) {
		for phase := range s.Phases {
			tick := first + phase
			if tick == s.Ticks || !yield(phase, tick) {
				return
			}
		}
	}
}

// zoneOf is the number of the zone in which the tick lies.
func (s Screw) zoneOf(tick int) int {
	zone := 0
	for number, z := range s.Zones {
		if z.From <= tick {
			zone = number
		}
	}
	return zone
}

// places are those of all ticks in the truth.
func (s Screw) places(t Truth) []int {
	list := make([]int, 1, s.Ticks+1)
	place := 0
	for first := 0; first < s.Ticks; first += len(s.Phases) {
		for phase, tick := range s.turn(first) {
			place += s.Step + t.Phases[phase] + t.Wears[s.zoneOf(tick)]
			list = append(list, place)
		}
	}
	return list
}

// ends take the same end of each range.
type ends struct{ of func(Range) int }

func lowEnds() ends { return ends{of: Range.low} }

func highEnds() ends { return ends{of: Range.high} }

// truth is the one in which all phases and wears are at these ends.
func (e ends) truth(s Screw) Truth {
	var t Truth
	for _, r := range s.Phases {
		t.Phases = append(t.Phases, e.of(r))
	}
	for _, z := range s.Zones {
		t.Wears = append(t.Wears, e.of(z.Wear))
	}
	return t
}

// engine knows the least and the greatest places of all ticks of its screw. As
// phases and wears are only added, one truth has all the least ones, and one all
// the greatest ones.
type engine struct {
	Screw
	least, greatest []int
}

func engineOf(s Screw) engine {
	return engine{Screw: s, least: s.places(lowEnds().truth(s)), greatest: s.places(highEnds().truth(s))}
}

func (e engine) bounds(tick int) Range { return Range{Lo: e.least[tick], Hi: e.greatest[tick]} }

// line is one of a scale, and the tick at which it is cut.
type line struct{ place, tick int }

func linesOf(scale, cutting []int) []line {
	list := make([]line, 0, len(scale))
	for number, place := range scale {
		list = append(list, line{place: place, tick: cutting[number]})
	}
	return list
}

func (e engine) out(l line) Range {
	b := e.bounds(l.tick)
	return Range{Lo: b.Lo - l.place, Hi: b.Hi - l.place}
}

// task is an engine with the bound that its lines have to keep.
type task struct {
	engine
	bound int
}

func taskOf(s Screw, bound int) task { return task{engine: engineOf(s), bound: bound} }

// right reports whether the line keeps the bound.
func (t task) right(l line) bool {
	out := t.out(l)
	return lists.Greatest(-out.Lo, out.Hi) <= t.bound
}

func (t task) wrong(l line) bool { return !t.right(l) }

// ticks are those that are right for the place.
func (t task) ticks(place int) []int {
	var list []int
	for tick := range t.Ticks + 1 {
		if t.right(line{place: place, tick: tick}) {
			list = append(list, tick)
		}
	}
	return list
}
