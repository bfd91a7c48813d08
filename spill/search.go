package spill

import (
	"iter"
	"slices"
)

// shortest has the fewest steps that lead from one place to another one, where
// next are all steps from a place, each with the place that it leads to. It
// reports as well whether any do.
func shortest[P comparable, S any](from, to P, next func(at P) iter.Seq2[S, P]) ([]S, bool) {
	steps := map[P][]S{from: nil}
	for reached := []P{from}; len(reached) > 0; reached = reached[1:] {
		at := reached[0]
		if at == to {
			return steps[at], true
		}
		for step, then := range next(at) {
			if _, known := steps[then]; !known {
				steps[then] = append(slices.Clone(steps[at]), step)
				reached = append(reached, then)
			}
		}
	}
	return nil, false
}
