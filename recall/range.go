package recall

import "meniscus/lists"

func (r Range) first() int { return r.Lo }

func (r Range) last() int { return r.Hi }

// areSome reports whether there are numbers in the range at all.
func (r Range) areSome() bool { return r.Lo <= r.Hi }

// end is one end of ranges.
type end struct {
	of        func(r Range) int
	outermost func(first int, others ...int) int
}

func bothEnds() (first, last end) {
	return end{of: Range.first, outermost: lists.Least}, end{of: Range.last, outermost: lists.Greatest}
}

// among is the outermost of the ends of all ranges.
func (e end) among(list []Range) int {
	ends := make([]int, 0, len(list))
	for _, r := range list {
		ends = append(ends, e.of(r))
	}
	return e.outermost(ends[0], ends[1:]...)
}

// span is from the least to the greatest number of all ranges, of which there is
// at least one.
func span(list []Range) Range {
	first, last := bothEnds()
	return Range{Lo: first.among(list), Hi: last.among(list)}
}
