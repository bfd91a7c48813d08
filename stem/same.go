package stem

import (
	"iter"
	"math"

	"meniscus/glass"
	"meniscus/lists"
)

// held is what is the same for all readings of a tube. (So is its zero; but it
// makes all their temperatures less by as much, and leaves no fewer of them.)
type held struct{ k, lag, squeeze int }

// truths are all that the tube can have for all its readings.
func (t Tube) truths() iter.Seq[held] {
	return func(yield func(held) bool) {
		for k := t.K.Lo; k <= t.K.Hi; k++ {
			for lag := t.Lag.Lo; lag <= t.Lag.Hi; lag++ {
				for squeeze := t.Squeeze.Lo; squeeze <= t.Squeeze.Hi; squeeze++ {
					if !yield(held{k: k, lag: lag, squeeze: squeeze}) {
						return
					}
				}
			}
		}
	}
}

// numbers are what the temperature and the zero can make together in a truth of
// the tube. At one rate these are all numbers between two: from one degree of
// the air to the next the stem's part changes by less than 1. From one rate to
// the next some can be left out.
func (w atWork) numbers(h held) spans {
	w = w.holding(h)
	rates := w.Rate
	var s spans
	for rate := rates.Lo; rate <= rates.Hi; rate++ {
		w.Rate = exactly(rate)
		s = s.with(w.withZero())
	}
	return s
}

// leftBy has, for each truth of the tube with which all readings can be of one
// temperature, the numbers that this and the zero can make together.
func (t Tube) leftBy(l []Reading) map[held]spans {
	left := map[held]spans{}
	for h := range t.truths() {
		left[h] = spans{{Lo: math.MinInt, Hi: math.MaxInt}}
	}
	for n := range len(l) {
		w := atWork{Tube: t, Reading: l[n]}
		for h, s := range left {
			if both := s.and(w.numbers(h)); len(both) > 0 {
				left[h] = both
			} else {
				delete(left, h)
			}
		}
	}
	return left
}

// ends are the least and the greatest number that is left.
func ends(left map[held]spans) glass.Range {
	var low, high []int
	for _, s := range left {
		low, high = append(low, s[0].Lo), append(high, s[len(s)-1].Hi)
	}
	return glass.Range{Lo: lists.Least(low[0], low[1:]...), Hi: lists.Greatest(high[0], high[1:]...)}
}
