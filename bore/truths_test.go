package bore_test

import (
	"slices"

	"meniscus/bore"
)

// This file has what the chapter defines, word by word and without haste, for
// the properties to be held against.

// dice are numbers that look thrown, and are the same in each run.
type dice struct{ state uint64 }

func (d *dice) below(end int) int {
	d.state = d.state*6364136223846793005 + 1442695040888963407
	return int(d.state>>33) % end
}

func (d *dice) from(lo, hi int) int { return lo + d.below(hi-lo+1) }

// smallTube has few truths.
func (d *dice) smallTube() bore.Tube {
	cells, lo := d.from(1, 4), d.from(1, 9)
	hi := lo + d.below(5)
	return tube(cells, lo, hi, d.from(cells*lo, cells*hi))
}

// anyTube is as large as the limits let it be.
func (d *dice) anyTube() bore.Tube {
	cells, lo := d.from(1, 10), d.from(1, 200)
	hi := d.from(lo, 200)
	return tube(cells, lo, hi, d.from(cells*lo, cells*hi))
}

// volumes are those of some truth of the tube.
func (d *dice) volumes(t bore.Tube) []int {
	list := make([]int, 0, t.Cells)
	rest := t.Total
	for left := t.Cells - 1; left >= 0; left-- {
		v := d.from(max(t.Cell.Lo, rest-left*t.Cell.Hi), min(t.Cell.Hi, rest-left*t.Cell.Lo))
		list = append(list, v)
		rest -= v
	}
	return list
}

// readings are some of a tube, as they would be with these volumes, but that
// one in so many is made up.
func (d *dice) readings(t bore.Tube, volumes []int, many, wrong int) []bore.Reading {
	var list []bore.Reading
	for range many {
		from, v := d.below(t.Cells), d.from(0, min(t.Total+2, 2000))
		in := shown(volumes, from, v)
		if d.below(wrong) == 0 {
			in = d.from(from, t.Cells)
		}
		list = append(list, reading(from, in, max(0, v-d.below(4)), min(2000, v+d.below(4))))
	}
	return list
}

// shown is where a thread of the volume v ends that is set on the mark from.
func shown(volumes []int, from, v int) int {
	in := from
	for in < len(volumes) && v >= volumes[in] {
		v -= volumes[in]
		in++
	}
	return in
}

// right is the chapter's: for some number of Volume.
func right(r bore.Reading, volumes []int) bool {
	for v := r.Volume.Lo; v <= r.Volume.Hi; v++ {
		below := sum(volumes[r.From:r.In]) <= v
		if below && (r.In == len(volumes) || sum(volumes[r.From:r.In+1]) > v) {
			return true
		}
	}
	return false
}

// truths are all volumes that the tube can have.
func truths(t bore.Tube) [][]int {
	var list [][]int
	var fill func(volumes []int)
	fill = func(volumes []int) {
		if len(volumes) == t.Cells {
			if sum(volumes) == t.Total {
				list = append(list, slices.Clone(volumes))
			}
			return
		}
		for v := t.Cell.Lo; v <= t.Cell.Hi; v++ {
			fill(append(volumes, v))
		}
	}
	fill(nil)
	return list
}

// ofReadings are those of the truths in which all readings are right.
func ofReadings(all [][]int, l []bore.Reading) [][]int {
	var list [][]int
	for _, volumes := range all {
		if !slices.ContainsFunc(l, func(r bore.Reading) bool { return !right(r, volumes) }) {
			list = append(list, volumes)
		}
	}
	return list
}

// boundsOf are the least and the greatest heights in these truths.
func boundsOf(t bore.Tube, some [][]int) []bore.Range {
	list := make([]bore.Range, t.Cells+1)
	for mark := range list {
		list[mark] = to(t.Total, 0)
		for _, volumes := range some {
			h := sum(volumes[:mark])
			list[mark] = to(min(list[mark].Lo, h), max(list[mark].Hi, h))
		}
	}
	return list
}

func widest(bounds []bore.Range) int {
	width := 0
	for _, b := range bounds {
		width = max(width, b.Hi-b.Lo)
	}
	return width
}

// lists are all rising lists of numbers below the end: the shorter ones first,
// of one length the lesser ones first.
func lists(end int) [][]int {
	var all [][]int
	for bits := range 1 << end {
		var list []int
		for n := range end {
			if bits>>n&1 == 1 {
				list = append(list, n)
			}
		}
		all = append(all, list)
	}
	slices.SortFunc(all, func(a, b []int) int {
		if len(a) != len(b) {
			return len(a) - len(b)
		}
		return slices.Compare(a, b)
	})
	return all
}

// only are the readings with these numbers, except all others.
func only(l []bore.Reading, numbers []int) []bore.Reading {
	var list []bore.Reading
	for _, n := range numbers {
		list = append(list, l[n])
	}
	return list
}

func except(l []bore.Reading, numbers []int) []bore.Reading {
	var list []bore.Reading
	for n, r := range l {
		if !slices.Contains(numbers, n) {
			list = append(list, r)
		}
	}
	return list
}
