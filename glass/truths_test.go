package glass_test

import (
	"math/rand/v2"
	"slices"

	"meniscus/api"
	"meniscus/glass"
)

// This file has what the chapter defines, word by word and without haste, for
// the properties to be held against.

// dice give the same numbers in each run.
type dice struct{ *rand.Rand }

func newDice(seed uint64) dice { return dice{rand.New(rand.NewPCG(seed, 2))} }

func (d dice) from(lo, hi int) int { return lo + d.IntN(hi-lo+1) }

// part is a range with ends from lo to hi that is at most so wide.
func (d dice) part(lo, hi, width int) glass.Range {
	low := d.from(lo, hi)
	return to(low, d.from(low, min(hi, low+width)))
}

// rising are so many numbers from lo to hi, each greater than the one before it.
func (d dice) rising(many, lo, hi int) []int {
	list := d.Perm(hi - lo + 1)[:many]
	slices.Sort(list)
	for i := range list {
		list[i] += lo
	}
	return list
}

// smallGlass has few truths in a short history; its heats are up to 12.
func (d dice) smallGlass() glass.Glass {
	return d.glass(4, 12, 9, 2)
}

// anyGlass is as large as the limits let it be.
func (d dice) anyGlass() glass.Glass {
	return d.glass(api.MaxGlassDays, api.MaxGlassHeat, api.MaxGlassSink, 5)
}

func (d dice) glass(lastFrom, greatestHeat, deepest, width int) glass.Glass {
	g := glass.Glass{Base: d.from(-900, 900), Back: d.part(0, api.MaxGlassBack, width)}
	for i, from := range d.rising(d.from(1, api.MaxGlassBands), 0, lastFrom) {
		g.Bands = append(g.Bands, band(min(i, 1)*from, d.part(0, api.MaxGlassCreep, width)))
	}
	sink := 0
	for _, from := range d.rising(d.from(1, api.MaxGlassDepths), 0, greatestHeat) {
		sink = d.from(sink, deepest)
		g.Depths = append(g.Depths, glass.Depth{From: from, Sink: sink})
	}
	return g
}

func (d dice) smallHistory() []glass.Range { return d.history(d.from(1, 3), 14, 3) }

func (d dice) anyHistory() []glass.Range {
	return d.history(d.from(1, api.MaxGlassDays), api.MaxGlassHeat, d.from(0, api.MaxGlassHeat))
}

func (d dice) history(days, greatestHeat, width int) []glass.Range {
	var history []glass.Range
	for range days {
		history = append(history, d.part(0, greatestHeat, width))
	}
	return history
}

func (d dice) of(r glass.Range) int { return d.from(r.Lo, r.Hi) }

func (d dice) truth(g glass.Glass, history []glass.Range) glass.Truth {
	return truthOf(g, history, d.of, d.of, d.of)
}

// truthOf takes of each range what these functions take of it.
func truthOf(g glass.Glass, history []glass.Range, heat, creep, back func(glass.Range) int) glass.Truth {
	var t glass.Truth
	for day, r := range history {
		t.Heats = append(t.Heats, heat(r))
		t.Creeps = append(t.Creeps, creep(creepOn(g, day)))
		t.Backs = append(t.Backs, back(g.Back))
	}
	return t
}

func lowEnd(r glass.Range) int { return r.Lo }

func highEnd(r glass.Range) int { return r.Hi }

// ices are some that these zeros leave true, but that one in so many is made up.
func (d dice) ices(zeros []int, many, wrong int) []glass.Ice {
	var ices []glass.Ice
	for range many {
		day, e := d.IntN(len(zeros)), d.IntN(4)
		zero := zeros[day] + d.from(-e, e)
		if d.IntN(wrong) == 0 {
			zero += d.from(-6, 6)
		}
		ices = append(ices, ice(day, zero, e))
	}
	return ices
}

func creepOn(g glass.Glass, day int) glass.Range {
	for i := len(g.Bands) - 1; i > 0; i-- {
		if g.Bands[i].From <= day {
			return g.Bands[i].Creep
		}
	}
	return g.Bands[0].Creep
}

func sinks(g glass.Glass, heat int) int {
	for i := len(g.Depths) - 1; i >= 0; i-- {
		if g.Depths[i].From <= heat {
			return g.Depths[i].Sink
		}
	}
	return 0
}

// sinkAndZeros are the sinks and the zeros of all days in the truth.
func sinksAndZeros(g glass.Glass, t glass.Truth) (sinkList, zeros []int) {
	rise, sink := 0, 0
	for day, heat := range t.Heats {
		rise += t.Creeps[day]
		sink -= t.Backs[day]
		if sink < 0 {
			sink = 0
		}
		if sink < sinks(g, heat) {
			sink = sinks(g, heat)
		}
		sinkList = append(sinkList, sink)
		zeros = append(zeros, g.Base+rise-sink)
	}
	return sinkList, zeros
}

func zerosIn(g glass.Glass, t glass.Truth) []int {
	_, zeros := sinksAndZeros(g, t)
	return zeros
}

// truths are all that the history has.
func truths(g glass.Glass, history []glass.Range) []glass.Truth {
	list := []glass.Truth{{}}
	for day, r := range history {
		var longer []glass.Truth
		for _, t := range list {
			for heat := r.Lo; heat <= r.Hi; heat++ {
				for creep := creepOn(g, day).Lo; creep <= creepOn(g, day).Hi; creep++ {
					for back := g.Back.Lo; back <= g.Back.Hi; back++ {
						longer = append(longer, glass.Truth{
							Heats:  append(slices.Clone(t.Heats), heat),
							Creeps: append(slices.Clone(t.Creeps), creep),
							Backs:  append(slices.Clone(t.Backs), back),
						})
					}
				}
			}
		}
		list = longer
	}
	return list
}

// played are the zeros of all truths, those that are the same once.
func played(g glass.Glass, history []glass.Range) [][]int {
	var list [][]int
	for _, t := range truths(g, history) {
		list = append(list, zerosIn(g, t))
	}
	slices.SortFunc(list, slices.Compare)
	return slices.CompactFunc(list, slices.Equal)
}

func isTrue(i glass.Ice, zeros []int) bool {
	return zeros[i.Day] <= i.Zero+i.Error && zeros[i.Day] >= i.Zero-i.Error
}

func allTrue(ices []glass.Ice, zeros []int) bool {
	return !slices.ContainsFunc(ices, func(i glass.Ice) bool { return !isTrue(i, zeros) })
}

// believing are those of the zeros in which all ices are true.
func believing(all [][]int, ices []glass.Ice) [][]int {
	var list [][]int
	for _, zeros := range all {
		if allTrue(ices, zeros) {
			list = append(list, zeros)
		}
	}
	return list
}

// without are the ices but those of the list.
func without(ices []glass.Ice, list []int) []glass.Ice {
	var others []glass.Ice
	for number, i := range ices {
		if !slices.Contains(list, number) {
			others = append(others, i)
		}
	}
	return others
}

// lists are all rising lists of numbers below the end: the shorter ones first,
// of one length the lesser ones first.
func lists(end int) [][]int {
	all := [][]int{nil}
	for n := range end {
		for _, list := range slices.Clone(all) {
			all = append(all, append(slices.Clone(list), n))
		}
	}
	slices.SortFunc(all, func(a, b []int) int {
		if len(a) != len(b) {
			return len(a) - len(b)
		}
		return slices.Compare(a, b)
	})
	return all
}
