package screw_test

import (
	"math/rand/v2"
	"slices"

	"meniscus/api"
	"meniscus/screw"
)

// This file has what the chapter defines, word by word and without haste, for
// the properties to be held against.

// dice give the same numbers in each run.
type dice struct{ *rand.Rand }

func newDice(seed uint64) dice { return dice{rand.New(rand.NewPCG(seed, 4))} }

func (d dice) from(lo, hi int) int { return lo + d.IntN(hi-lo+1) }

// part is a range with ends from lo to hi that is at most so wide.
func (d dice) part(lo, hi, width int) screw.Range {
	low := d.from(lo, hi)
	return to(low, d.from(low, min(hi, low+width)))
}

// rising are so many numbers from lo to hi, each greater than the one before it.
func (d dice) rising(many, lo, hi int) []int {
	list := d.Perm(hi - lo + 1)[:many]
	slices.Sort(list)
	for i := range list {
		list[i] += lo
	}
	return list
}

// smallScrew has few truths, and few ticks.
func (d dice) smallScrew() screw.Screw { return d.screw(d.from(3, 12), 3, d.from(1, 9), 4, 2) }

// anyScrew is as large as the limits let it be.
func (d dice) anyScrew() screw.Screw {
	return d.screw(d.from(1, api.MaxScrewStep), api.MaxScrewPhases, d.from(1, api.MaxScrewTicks), api.MaxScrewError, d.from(0, 10))
}

func (d dice) screw(step, phases, ticks, far, width int) screw.Screw {
	for {
		s := screw.Screw{Step: step, Ticks: ticks}
		for range d.from(1, phases) {
			s.Phases = append(s.Phases, d.part(-far, far, width))
		}
		for i, from := range d.rising(d.from(1, api.MaxScrewZones), 0, min(ticks+3, api.MaxScrewTicks)) {
			s.Zones = append(s.Zones, zone(min(i, 1)*from, d.part(-far, far, d.from(0, width))))
		}
		if goesOn(s) {
			return s
		}
		far = max(far-1, 0)
	}
}

func goesOn(s screw.Screw) bool {
	for _, phase := range s.Phases {
		for _, z := range s.Zones {
			if s.Step+phase.Lo+z.Wear.Lo < 1 {
				return false
			}
		}
	}
	return true
}

func (d dice) of(r screw.Range) int { return d.from(r.Lo, r.Hi) }

func lowEnd(r screw.Range) int { return r.Lo }

func highEnd(r screw.Range) int { return r.Hi }

// truthOf takes of each range what this function takes of it.
func truthOf(s screw.Screw, take func(screw.Range) int) screw.Truth {
	var t screw.Truth
	for _, r := range s.Phases {
		t.Phases = append(t.Phases, take(r))
	}
	for _, z := range s.Zones {
		t.Wears = append(t.Wears, take(z.Wear))
	}
	return t
}

// lists has one number of each range, in all ways.
func lists(ranges []screw.Range) [][]int {
	all := [][]int{nil}
	for _, r := range ranges {
		var longer [][]int
		for _, list := range all {
			for n := r.Lo; n <= r.Hi; n++ {
				longer = append(longer, append(slices.Clone(list), n))
			}
		}
		all = longer
	}
	return all
}

// truths are all that the screw has.
func truths(s screw.Screw) []screw.Truth {
	var wears []screw.Range
	for _, z := range s.Zones {
		wears = append(wears, z.Wear)
	}
	var all []screw.Truth
	for _, p := range lists(s.Phases) {
		for _, w := range lists(wears) {
			all = append(all, screw.Truth{Phases: p, Wears: w})
		}
	}
	return all
}

// zoneOf looks for a zone that has begun, and whose next one has not.
func zoneOf(s screw.Screw, tick int) int {
	for number := range s.Zones {
		last := number == len(s.Zones)-1
		if s.Zones[number].From <= tick && (last || tick < s.Zones[number+1].From) {
			return number
		}
	}
	return -1
}

func place(s screw.Screw, tick int, t screw.Truth) int {
	sum := 0
	for i := 0; i < tick; i++ {
		sum += s.Step
		sum += t.Phases[i%len(s.Phases)]
		sum += t.Wears[zoneOf(s, i)]
	}
	return sum
}

// engraved are the places of all ticks in all truths.
func engraved(s screw.Screw) [][]int {
	var all [][]int
	for _, t := range truths(s) {
		var places []int
		for tick := 0; tick <= s.Ticks; tick++ {
			places = append(places, place(s, tick, t))
		}
		all = append(all, places)
	}
	slices.SortFunc(all, slices.Compare)
	return slices.CompactFunc(all, slices.Equal)
}

// keepsLine reports whether in each truth a line of the place that is cut at the
// tick is out by at most the bound.
func keepsLine(all [][]int, place, tick, bound int) bool {
	for _, places := range all {
		out := places[tick] - place
		if out > bound || out < -bound {
			return false
		}
	}
	return true
}

func keeps(all [][]int, scale, cutting []int, bound int) bool {
	for number := range scale {
		if !keepsLine(all, scale[number], cutting[number], bound) {
			return false
		}
	}
	return true
}

func settingsOf(cutting []int) int {
	settings := 0
	for i := 1; i < len(cutting); i++ {
		if i == 1 || cutting[i]-cutting[i-1] != cutting[i-1]-cutting[i-2] {
			settings++
		}
	}
	return settings
}

// cuttings are all rising lists of so many ticks, the lesser ones first.
func cuttings(lines, ticks int) [][]int {
	all := [][]int{nil}
	for range lines {
		var longer [][]int
		for _, list := range all {
			first := 0
			if len(list) > 0 {
				first = list[len(list)-1] + 1
			}
			for tick := first; tick <= ticks; tick++ {
				longer = append(longer, append(slices.Clone(list), tick))
			}
		}
		all = longer
	}
	return all
}

// bestOf is the best cutting, and nil if none keeps the bound.
func bestOf(s screw.Screw, all [][]int, scale []int, bound int) []int {
	var best []int
	for _, c := range cuttings(len(scale), s.Ticks) {
		if keeps(all, scale, c, bound) && (best == nil || settingsOf(c) < settingsOf(best)) {
			best = c
		}
	}
	return best
}

// scaleNear is a scale whose lines lie near the places of some ticks.
func (d dice) scaleNear(s screw.Screw, lines, far int) []int {
	for {
		var scale []int
		t := truthOf(s, d.of)
		for _, tick := range d.rising(min(lines, s.Ticks+1), 0, s.Ticks) {
			scale = append(scale, min(max(0, place(s, tick, t)+d.from(-far, far)), api.MaxScrewPlace))
		}
		slices.Sort(scale)
		if len(slices.Compact(slices.Clone(scale))) == len(scale) {
			return scale
		}
		far++
	}
}
