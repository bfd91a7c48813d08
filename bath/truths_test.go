package bath_test

import (
	"math/rand/v2"
	"slices"

	"meniscus/api"
	"meniscus/bath"
)

// This file has what the chapter defines, word by word and without haste, for
// the properties to be held against.

// dice give the same numbers in each run.
type dice struct{ *rand.Rand }

func newDice(seed uint64) dice { return dice{rand.New(rand.NewPCG(seed, 5))} }

func (d dice) from(lo, hi int) int { return lo + d.IntN(hi-lo+1) }

func (d dice) of(r bath.Range) int { return d.from(r.Lo, r.Hi) }

// part is a range with ends from lo to hi that is at most so wide.
func (d dice) part(lo, hi, width int) bath.Range {
	low := d.from(lo, hi)
	return to(low, d.from(low, min(hi, low+width)))
}

// truth has an offset for each instrument, and a heat for each bath.
type truth struct{ offsets, heats []int }

// smallSeries has few candidates for a truth. Its Values are those of one, but
// that they are out by at most so much.
func (d dice) smallSeries(most int) bath.Series {
	s, _ := d.series(d.from(1, 3), d.from(0, 3), d.from(0, 2), 3, d.IntN(most+1))
	return s
}

// anySeries is as large as the limits let it be, and has a truth, which is told.
func (d dice) anySeries() (bath.Series, truth) {
	err := d.IntN(api.MaxBathError + 1)
	return d.series(d.from(1, api.MaxBathInstruments), d.from(0, api.MaxBathBaths), err, d.from(0, 200), err)
}

// series has ranges of at most this width, and Values that are out by at most so
// much in the truth that is told.
func (d dice) series(instruments, baths, err, width, out int) (bath.Series, truth) {
	s, t := bath.Series{Error: err}, truth{}
	for range instruments {
		r := d.part(-api.MaxBathOffset, api.MaxBathOffset, width)
		s.Offsets, t.offsets = append(s.Offsets, r), append(t.offsets, d.of(r))
	}
	for range baths {
		b := in(d.part(0, api.MaxBathHeat, width))
		heat := d.of(b.Heat)
		for _, i := range d.Perm(instruments)[:d.from(min(1, instruments), instruments)] {
			b.Reads = append(b.Reads, read(i, heat+t.offsets[i]+d.from(-out, out)))
		}
		s.Baths, t.heats = append(s.Baths, b), append(t.heats, heat)
	}
	return s, t
}

// lists has one number of each range, in all ways.
func lists(ranges []bath.Range) [][]int {
	all := [][]int{nil}
	for _, r := range ranges {
		var longer [][]int
		for _, list := range all {
			for n := r.Lo; n <= r.Hi; n++ {
				longer = append(longer, append(slices.Clone(list), n))
			}
		}
		all = longer
	}
	return all
}

// candidates have an offset of its range for each instrument, and a heat of its
// range for each bath, in all ways.
func candidates(s bath.Series) []truth {
	var heats []bath.Range
	for _, b := range s.Baths {
		heats = append(heats, b.Heat)
	}
	var all []truth
	for _, offsets := range lists(s.Offsets) {
		for _, h := range lists(heats) {
			all = append(all, truth{offsets, h})
		}
	}
	return all
}

// right reports whether the reading at the place differs by at most Error.
func right(s bath.Series, t truth, at bath.Place) bool {
	r := s.Baths[at.Bath].Reads[at.Read]
	together := t.heats[at.Bath] + t.offsets[r.Instrument]
	return together-s.Error <= r.Value && r.Value <= together+s.Error
}

// places are those of all readings, rising.
func places(s bath.Series) []bath.Place {
	var list []bath.Place
	for b := range s.Baths {
		for r := range s.Baths[b].Reads {
			list = append(list, place(b, r))
		}
	}
	return list
}

// wrongIn are the places of the readings that are not right.
func wrongIn(s bath.Series, t truth) []bath.Place {
	var list []bath.Place
	for _, at := range places(s) {
		if !right(s, t, at) {
			list = append(list, at)
		}
	}
	return list
}

// truths are those of the candidates in which all readings are right.
func truths(s bath.Series) []truth {
	return slices.DeleteFunc(candidates(s), func(t truth) bool { return len(wrongIn(s, t)) > 0 })
}

// least and greatest of what is taken of each truth.
func boundsOf(all []truth, take func(t truth) int) bath.Range {
	bounds := to(take(all[0]), take(all[0]))
	for _, t := range all {
		bounds = to(min(bounds.Lo, take(t)), max(bounds.Hi, take(t)))
	}
	return bounds
}

func comparePlaces(a, b bath.Place) int {
	if a.Bath != b.Bath {
		return a.Bath - b.Bath
	}
	return a.Read - b.Read
}

// before orders lists of places: the shorter one first, of one length the lesser
// one.
func before(a, b []bath.Place) int {
	if len(a) != len(b) {
		return len(a) - len(b)
	}
	return slices.CompareFunc(a, b, comparePlaces)
}

// subsets are all lists of these places, in their order.
func subsets(list []bath.Place) [][]bath.Place {
	var all [][]bath.Place
	for bits := range 1 << len(list) {
		var some []bath.Place
		for n, at := range list {
			if bits>>n&1 == 1 {
				some = append(some, at)
			}
		}
		all = append(all, some)
	}
	slices.SortFunc(all, before)
	return all
}

// without is the series without the readings at these places.
func without(s bath.Series, list []bath.Place) bath.Series {
	baths := s.Baths
	s.Baths = nil
	for b := range baths {
		left := in(baths[b].Heat)
		for r, reading := range baths[b].Reads {
			if !slices.Contains(list, place(b, r)) {
				left.Reads = append(left.Reads, reading)
			}
		}
		s.Baths = append(s.Baths, left)
	}
	return s
}

// of are the places of the instrument's readings.
func of(s bath.Series, instrument int) []bath.Place {
	var list []bath.Place
	for _, at := range places(s) {
		if s.Baths[at.Bath].Reads[at.Read].Instrument == instrument {
			list = append(list, at)
		}
	}
	return list
}

// smallWorks has up to so many instruments.
func (d dice) smallWorks(most int) bath.Works {
	w := bath.Works{Room: d.from(2, api.MaxBathInstruments), Steps: d.from(1, api.MaxBathSteps)}
	for range d.from(1, most) {
		w.Ranges = append(w.Ranges, d.part(0, 100, 60))
	}
	return w
}

// dips are all that the works can have, but for those that differ only in Heat.
func dips(w bath.Works) []bath.Dip {
	var all []bath.Dip
	for bits := range 1 << len(w.Ranges) {
		d, heats := bath.Dip{}, to(0, api.MaxBathHeat)
		for n, r := range w.Ranges {
			if bits>>n&1 == 1 {
				d.Instruments = append(d.Instruments, n)
				heats = to(max(heats.Lo, r.Lo), min(heats.Hi, r.Hi))
			}
		}
		if d.Heat = heats.Hi; heats.Lo <= heats.Hi && len(d.Instruments) >= 2 && len(d.Instruments) <= w.Room {
			all = append(all, d)
		}
	}
	return all
}

// knownBy walks from dip to dip, as long as one has an instrument of the one
// before it.
func knownBy(w bath.Works, plan []bath.Dip) []int {
	known := slices.Repeat([]int{bath.None}, len(w.Ranges))
	known[0] = 0
	reached := map[int]bool{0: true}
	for steps := 1; steps <= len(plan); steps++ {
		next := map[int]bool{}
		for _, d := range plan {
			if slices.ContainsFunc(d.Instruments, func(n int) bool { return reached[n] }) {
				for _, n := range d.Instruments {
					next[n] = true
				}
			}
		}
		for n := range next {
			if known[n] == bath.None {
				known[n] = steps
			}
		}
		reached = next
	}
	return known
}

func rightPlan(w bath.Works, plan []bath.Dip) bool {
	known := knownBy(w, plan)
	return !slices.Contains(known, bath.None) && slices.Max(known) <= w.Steps
}

// some reports whether so many of these dips, put behind the plan, make a right
// one: all are tried.
func some(w bath.Works, plan, dips []bath.Dip, many int) bool {
	if many == 0 {
		return rightPlan(w, plan)
	}
	for n, d := range dips {
		if some(w, append(slices.Clone(plan), d), dips[n+1:], many-1) {
			return true
		}
	}
	return false
}
