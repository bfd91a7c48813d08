package glass

import "meniscus/lists"

// played are the zeros of all days in one truth.
type played []int

// agrees reports whether the zero of the ice's day agrees with the ice.
func (p played) agrees(i Ice) bool { return i.told(p[i.Day]) }

// told reports whether the ice is true if this is the zero of its day.
func (i Ice) told(zero int) bool {
	return Range{Lo: i.Zero - i.Error, Hi: i.Zero + i.Error}.has(zero)
}

// zeros are those of one day in many truths, in no order.
type zeros []int

func (z zeros) lowest() int { return lists.Least(z[0], z[1:]...) }

func (z zeros) highest() int { return lists.Greatest(z[0], z[1:]...) }

// ends tell the ends of the range of a day's zeros.
type ends struct {
	lo, hi func(z zeros) int
}

func bothEnds() ends { return ends{lo: zeros.lowest, hi: zeros.highest} }

func (e ends) of(z zeros) Range { return Range{Lo: e.lo(z), Hi: e.hi(z)} }

// agree reports whether there are truths: each day has a zero then, or none has.
func agree(days []zeros) bool { return len(days[0]) > 0 }

// daysKept is on how many days, from the first one on, all zeros are within.
func daysKept(days []zeros, within Range) int {
	kept := 0
search:
	for _, list := range days {
		for _, zero := range list {
			if !within.has(zero) {
				break search
			}
		}
		kept++
	}
	return kept
}
