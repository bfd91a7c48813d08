package stem

import (
	"meniscus/glass"
	"meniscus/lists"
)

func exactly(number int) glass.Range { return glass.Range{Lo: number, Hi: number} }

// less is what a number of the range can be, less one of the other range.
func less(r, taken glass.Range) glass.Range {
	return glass.Range{Lo: r.Lo - taken.Hi, Hi: r.Hi - taken.Lo}
}

// times is between which bounds a number of one range times one of the other
// range can be.
func times(r, other glass.Range) glass.Range {
	low, high := r.Lo*other.Lo, r.Hi*other.Hi
	lowHigh, highLow := r.Lo*other.Hi, r.Hi*other.Lo
	return glass.Range{
		Lo: lists.Least(low, high, lowHigh, highLow),
		Hi: lists.Greatest(low, high, lowHigh, highLow),
	}
}

// down is the greatest whole number that is not above the quotient. Go's
// division goes towards 0, which is up for what is below 0.
func down(number, by int) int {
	n := number / by
	if number%by < 0 {
		n--
	}
	return n
}

// spans are ranges of numbers, each above the one before it.
type spans []glass.Range

// with has a range more, which does not begin below the last one.
func (s spans) with(r glass.Range) spans {
	last := len(s) - 1
	if last < 0 || s[last].Hi < r.Lo {
		return append(s, r)
	}
	s[last].Hi = lists.Greatest(s[last].Hi, r.Hi)
	return s
}

// and has the numbers that both have.
func (s spans) and(others spans) spans {
	var both spans
	for _, r := range s {
		for _, o := range others {
			common := glass.Range{Lo: lists.Greatest(r.Lo, o.Lo), Hi: lists.Least(r.Hi, o.Hi)}
			if common.Lo <= common.Hi {
				both = append(both, common)
			}
		}
	}
	return both
}
