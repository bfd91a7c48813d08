package cert_test

import (
	"math/rand/v2"
	"slices"

	"meniscus/api"
	"meniscus/bore"
	"meniscus/cert"
	"meniscus/point"
)

// This file has what the chapter defines, word by word and without haste, for
// the properties to be held against.

// dice give the same numbers in each run.
type dice struct{ *rand.Rand }

func newDice(seed uint64) dice { return dice{rand.New(rand.NewPCG(seed, 7))} }

func (d dice) from(lo, hi int) int { return lo + d.IntN(hi-lo+1) }

// part is a range with ends from lo to hi that is at most so wide.
func (d dice) part(lo, hi, width int) (int, int) {
	low := d.from(lo, hi)
	return low, d.from(low, min(hi, low+width))
}

// limits tell how large what dice make is.
type limits struct{ cells, cell, width, readings, pressures, drift int }

// smallLimits leave few truths.
func smallLimits() limits {
	return limits{cells: 4, cell: 9, width: 4, readings: 6, pressures: 4, drift: 2}
}

func anyLimits() limits {
	return limits{cells: 10, cell: 200, width: 200, readings: 12, pressures: 2000, drift: 100}
}

// scene is an instrument, with the volumes of one of its truths.
type scene struct {
	x       cert.Instrument
	volumes []int
}

func (d dice) scene(l limits) scene {
	cells := d.from(1, l.cells)
	lo, hi := d.part(1, l.cell, l.width)
	s := scene{x: cert.Instrument{Tube: tube(cells, lo, hi, d.from(cells*lo, cells*hi))}}
	s.volumes = d.volumes(s.x.Tube)
	for range d.IntN(l.readings + 1) {
		s.x.Readings = append(s.x.Readings, d.thread(s))
	}
	s.x.Table = d.table()
	first, last := s.x.Table[0].Pressure, s.x.Table[len(s.x.Table)-1].Pressure
	s.x.Pressures.Lo, s.x.Pressures.Hi = d.part(first, last, l.pressures)
	s.x.Drift.Lo, s.x.Drift.Hi = d.part(0, api.MaxCertDrift/(1+9*d.IntN(2)), l.drift)
	return s
}

// volumes are those of some truth of the tube.
func (d dice) volumes(t bore.Tube) []int {
	list := make([]int, 0, t.Cells)
	rest := t.Total
	for left := t.Cells - 1; left >= 0; left-- {
		v := d.from(max(t.Cell.Lo, rest-left*t.Cell.Hi), min(t.Cell.Hi, rest-left*t.Cell.Lo))
		list = append(list, v)
		rest -= v
	}
	return list
}

// thread is a reading that is right with the scene's volumes. As often as not it
// ends near a mark, as such threads tell most.
func (d dice) thread(s scene) bore.Reading {
	from, v := d.IntN(s.x.Tube.Cells), d.from(0, min(s.x.Tube.Total+2, api.MaxBoreTotal))
	if d.IntN(2) == 0 {
		v = sum(s.volumes[from:d.from(from+1, s.x.Tube.Cells)]) - d.IntN(2)
	}
	in, rest := from, v
	for in < s.x.Tube.Cells && rest >= s.volumes[in] {
		rest -= s.volumes[in]
		in++
	}
	return thread(from, in, max(0, v-d.IntN(3)), min(api.MaxBoreTotal, v+d.IntN(3)))
}

// table begins, as often as not, a little below 1000.
func (d dice) table() []point.Step {
	list := []point.Step{{Pressure: d.from(1, 800), Height: d.from(1+899*d.IntN(2), 1000)}}
	for range d.from(1, api.MaxPointSteps-1) {
		last := list[len(list)-1]
		list = append(list, point.Step{Pressure: last.Pressure + d.from(1, 160), Height: last.Height + d.from(1, 140)})
	}
	return list
}

// use is one of the instrument; as often as not it is asked for what is just
// kept on the day, or just not.
func (d dice) use(x cert.Instrument, day int) cert.Use {
	u := use(0, 0, d.from(0, api.MaxCertWithin))
	u.From, u.To = d.part(0, x.Tube.Cells, x.Tube.Cells)
	if d.IntN(2) == 0 {
		u.Within = max(0, min(out(x, u, day)+d.from(-1, 1), api.MaxCertWithin))
	}
	return u
}

// out is by how much the marks of the use are out on the day, at most.
func out(x cert.Instrument, u cert.Use, day int) int {
	most := 0
	l, _ := cert.Corrections(x, day)
	for _, c := range l[u.From : u.To+1] {
		most = max(most, -c.Lo, c.Hi)
	}
	return most
}

func sum(list []int) int {
	total := 0
	for _, n := range list {
		total += n
	}
	return total
}

// floor is the greatest whole number that is not above n divided by d, which is
// above 0.
func floor(n, d int) int {
	f := n / d
	for f*d > n {
		f--
	}
	return f
}

// ceil is the least one that is not below it.
func ceil(n, d int) int {
	c := n / d
	for c*d < n {
		c++
	}
	return c
}

// volumesOf are those of all truths of the readings.
func volumesOf(x cert.Instrument) [][]int {
	var list [][]int
	var fill func(volumes []int)
	fill = func(volumes []int) {
		if len(volumes) < x.Tube.Cells {
			for v := x.Tube.Cell.Lo; v <= x.Tube.Cell.Hi; v++ {
				fill(append(volumes, v))
			}
		} else if bore.ProveTruth(x.Tube, x.Readings, volumes) {
			list = append(list, slices.Clone(volumes))
		}
	}
	fill(nil)
	return list
}

// truth is one of the instrument, on one day.
type truth struct {
	volumes      []int
	steam, risen int
}

// part is how many Total-ths of a thousandth high the mark truly is: so it is a
// whole number.
func (w truth) part(x cert.Instrument, mark int) int {
	return sum(w.volumes[:mark])*w.steam - w.risen*x.Tube.Total
}

// risenOn is by how much the zero can have risen.
func risenOn(x cert.Instrument, day int) cert.Range {
	return to(floor(x.Drift.Lo*day, 100), ceil(x.Drift.Hi*day, 100))
}

func steamOf(x cert.Instrument) point.Range {
	steam, _ := point.Boils(x.Table, x.Pressures)
	return steam
}

// truths are all that the instrument has on the day.
func truths(x cert.Instrument, day int) []truth {
	var all []truth
	steam, risen := steamOf(x), risenOn(x, day)
	for _, volumes := range volumesOf(x) {
		for s := steam.Lo; s <= steam.Hi; s++ {
			for r := risen.Lo; r <= risen.Hi; r++ {
				all = append(all, truth{volumes: volumes, steam: s, risen: r})
			}
		}
	}
	return all
}

// truth is one of the scene, on the day.
func (d dice) truth(s scene, day int) truth {
	steam, risen := steamOf(s.x), risenOn(s.x, day)
	return truth{volumes: s.volumes, steam: d.from(steam.Lo, steam.Hi), risen: d.from(risen.Lo, risen.Hi)}
}

// boundsOf are those of the mark, in these truths.
func boundsOf(x cert.Instrument, all []truth, mark int) cert.Range {
	least, greatest := all[0].part(x, mark), all[0].part(x, mark)
	for _, w := range all {
		least, greatest = min(least, w.part(x, mark)), max(greatest, w.part(x, mark))
	}
	return to(floor(least, x.Tube.Total), ceil(greatest, x.Tube.Total))
}

func tells(x cert.Instrument, mark int) int { return floor(1000*mark, x.Tube.Cells) }

// keeps reports whether the use is kept, if the marks have these bounds.
func keeps(x cert.Instrument, u cert.Use, bounds []cert.Range) bool {
	for mark := u.From; mark <= u.To; mark++ {
		if bounds[mark].Lo-tells(x, mark) < -u.Within || bounds[mark].Hi-tells(x, mark) > u.Within {
			return false
		}
	}
	return true
}

// canStand reports whether the reading on the scale, and a thermometer that stands
// between these bounds in thousandths, allow points of the same height. All are
// counted in parts, of which there are so many in a degree that they are whole.
func canStand(s point.Scale, reading int, bounds cert.Range) bool {
	degrees := s.Steam - s.Ice
	low, high := (2*(reading-s.Ice)-1)*1000, (2*(reading-s.Ice)+1)*1000
	least, greatest := (2*bounds.Lo-1)*degrees, (2*bounds.Hi+1)*degrees
	if degrees < 0 {
		least, greatest = greatest, least
	}
	return max(low, least) <= min(high, greatest)
}

// lists are all rising lists of numbers below the end: the shorter ones first, of
// one length the lesser ones first.
func lists(end int) [][]int {
	var all [][]int
	for bits := range 1 << end {
		var list []int
		for n := range end {
			if bits>>n&1 == 1 {
				list = append(list, n)
			}
		}
		all = append(all, list)
	}
	slices.SortFunc(all, func(a, b []int) int {
		if len(a) != len(b) {
			return len(a) - len(b)
		}
		return slices.Compare(a, b)
	})
	return all
}

// only has the readings with these numbers alone.
func only(x cert.Instrument, numbers []int) cert.Instrument {
	all := x.Readings
	x.Readings = nil
	for _, n := range numbers {
		x.Readings = append(x.Readings, all[n])
	}
	return x
}
