package stem_test

import (
	"math/big"
	"math/rand/v2"
	"slices"

	"meniscus/api"
	"meniscus/glass"
	"meniscus/stem"
)

// This file has what the chapter defines, word by word and without haste, for
// the properties to be held against.

// dice give the same numbers in each run.
type dice struct{ *rand.Rand }

func newDice(seed uint64) dice { return dice{rand.New(rand.NewPCG(seed, 6))} }

func (d dice) from(lo, hi int) int { return lo + d.IntN(hi-lo+1) }

func (d dice) of(r glass.Range) int { return d.from(r.Lo, r.Hi) }

// part is a range with ends from lo to hi that is at most so wide.
func (d dice) part(lo, hi, width int) glass.Range {
	low := d.from(lo, hi)
	return to(low, d.from(low, min(hi, low+width)))
}

// scene is a tube with a history, and with ices that are all true of the zeros
// of one truth of it.
type scene struct {
	tube    stem.Tube
	history []glass.Range
	ices    []glass.Ice
	zeros   []int
}

// limits tell how large what dice make is.
type limits struct{ width, days, shown, errors, bare, deep int }

// smallLimits leave few truths.
func smallLimits() limits {
	return limits{width: 2, days: 3, shown: 5000, errors: 2, bare: 300, deep: 5}
}

func anyLimits() limits {
	return limits{width: 1000, days: api.MaxGlassDays, shown: 5000, errors: 20, bare: 300, deep: 20}
}

// scene has no stale readings, and its zeros differ little if widths are small.
func (d dice) scene(l limits) scene {
	s := scene{tube: stem.Tube{
		Glass: glass.Glass{
			Base:   d.from(-900, 900),
			Bands:  []glass.Band{{Creep: d.part(0, api.MaxGlassCreep, l.width-1)}},
			Depths: []glass.Depth{{From: d.from(0, 100), Sink: d.from(0, 10)}, {From: 200, Sink: d.from(10, 30)}},
			Back:   d.part(0, api.MaxGlassBack, l.width-1),
		},
		K:       d.part(0, api.MaxStemK, l.width),
		Lag:     d.part(0, api.MaxStemLag, l.width),
		Squeeze: d.part(0, api.MaxStemSqueeze, l.width),
		Term:    api.MaxStemTerm,
	}}
	var t glass.Truth
	for range d.from(1, l.days) {
		heat := d.part(0, api.MaxGlassHeat, l.width)
		s.history = append(s.history, heat)
		t.Heats = append(t.Heats, d.of(heat))
		t.Creeps = append(t.Creeps, d.of(s.tube.Glass.Bands[0].Creep))
		t.Backs = append(t.Backs, d.of(s.tube.Glass.Back))
	}
	s.zeros, _ = glass.Play(s.tube.Glass, s.history, t)
	for range d.IntN(3) {
		s.ices = append(s.ices, d.ice(s))
	}
	return s
}

// ice is true of the scene's zeros.
func (d dice) ice(s scene) glass.Ice {
	day, e := d.IntN(len(s.zeros)), d.IntN(5)
	return ice(day, s.zeros[day]+d.from(-e, e), e)
}

// reading is one of the scene.
func (d dice) reading(s scene, l limits) stem.Reading {
	return stem.Reading{
		Day: d.IntN(len(s.history)), Shown: d.from(-l.shown, l.shown), Error: d.IntN(l.errors + 1),
		Bare: d.IntN(2) * d.from(0, l.bare), Air: d.part(-api.MaxStemAir, api.MaxStemAir, l.width),
		Rate: d.part(-api.MaxStemRate, api.MaxStemRate, l.width), Deep: d.IntN(2) * d.from(0, l.deep),
	}
}

// truth is one of the reading, with this zero.
func (d dice) truth(s scene, r stem.Reading, zero int) stem.Truth {
	return stem.Truth{
		Zero: zero, K: d.of(s.tube.K), Lag: d.of(s.tube.Lag), Squeeze: d.of(s.tube.Squeeze),
		Air: d.of(r.Air), Rate: d.of(r.Rate), Off: d.from(-r.Error, r.Error),
	}
}

// shows makes the reading show what it has to if this is the temperature in the
// truth, or tells that it cannot.
func shows(r stem.Reading, x stem.Truth, degrees int) (stem.Reading, bool) {
	for r.Shown = -api.MaxStemShown; r.Shown <= api.MaxStemShown; r.Shown++ {
		if temperature(r, x) == degrees {
			return r, true
		}
	}
	return r, false
}

// stemPart divides by the library of large numbers, whose Div goes down if the
// divisor is above 0.
func stemPart(r stem.Reading, x stem.Truth) int {
	product := big.NewInt(int64(x.K * r.Bare * (r.Shown - 10*x.Air)))
	return int(product.Div(product, big.NewInt(100000)).Int64())
}

func temperature(r stem.Reading, x stem.Truth) int {
	return r.Shown + x.Off - x.Zero + stemPart(r, x) + x.Rate*x.Lag - x.Squeeze*r.Deep
}

// each calls what it is given with all numbers of the range.
func each(r glass.Range, do func(n int)) {
	for n := r.Lo; n <= r.Hi; n++ {
		do(n)
	}
}

// heldIn has the K, the Lag and the Squeeze of a truth, and nothing else.
func heldIn(x stem.Truth) stem.Truth {
	return stem.Truth{K: x.K, Lag: x.Lag, Squeeze: x.Squeeze}
}

// truths are all that the reading has with the Zero 0.
func truths(t stem.Tube, r stem.Reading) []stem.Truth {
	var all []stem.Truth
	each(t.K, func(k int) {
		each(t.Lag, func(lag int) {
			each(t.Squeeze, func(squeeze int) {
				each(r.Air, func(air int) {
					each(r.Rate, func(rate int) {
						each(to(-r.Error, r.Error), func(off int) {
							all = append(all, stem.Truth{K: k, Lag: lag, Squeeze: squeeze, Air: air, Rate: rate, Off: off})
						})
					})
				})
			})
		})
	})
	return all
}

// zerosThatCanBe are those of the day, or none if the ices do not agree.
func zerosThatCanBe(s scene, day int) []int {
	var list []int
	zeros, e := glass.Zeros(s.tube.Glass, s.history, s.ices)
	if e == api.OK {
		each(zeros[day], func(n int) { list = append(list, n) })
	}
	return list
}

// temperatures are those of the reading, in all truths whose Zero can be.
func temperatures(s scene, r stem.Reading) []int {
	var list []int
	for _, zero := range zerosThatCanBe(s, r.Day) {
		for _, x := range truths(s.tube, r) {
			x.Zero = zero
			list = append(list, temperature(r, x))
		}
	}
	return list
}

// together are the temperatures of all truths of the readings, whose Zero can be.
func together(s scene, l []stem.Reading) []int {
	var list []int
	for _, zero := range zerosThatCanBe(s, l[0].Day) {
		all := map[stem.Truth]map[int]int{} // how many readings can be of each temperature
		for n, r := range l {
			for _, x := range truths(s.tube, r) {
				held := heldIn(x)
				if all[held] == nil {
					all[held] = map[int]int{}
				}
				x.Zero = zero
				if degrees := temperature(r, x); all[held][degrees] == n {
					all[held][degrees] = n + 1
				}
			}
		}
		for _, counts := range all {
			for degrees, many := range counts {
				if many == len(l) {
					list = append(list, degrees)
				}
			}
		}
	}
	return list
}

func boundsOf(list []int) glass.Range { return to(slices.Min(list), slices.Max(list)) }

// corners are the truths of the reading with the ends of all ranges.
func corners(s scene, r stem.Reading) []stem.Truth {
	ends := func(r glass.Range) []int { return []int{r.Lo, r.Hi} }
	zeros := zerosThatCanBe(s, r.Day)
	var all []stem.Truth
	for _, zero := range ends(boundsOf(zeros)) {
		for _, k := range ends(s.tube.K) {
			for _, lag := range ends(s.tube.Lag) {
				for _, squeeze := range ends(s.tube.Squeeze) {
					for _, air := range ends(r.Air) {
						for _, rate := range ends(r.Rate) {
							for _, off := range ends(to(-r.Error, r.Error)) {
								all = append(all, stem.Truth{Zero: zero, K: k, Lag: lag, Squeeze: squeeze, Air: air, Rate: rate, Off: off})
							}
						}
					}
				}
			}
		}
	}
	return all
}
