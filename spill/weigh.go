package spill

import (
	"meniscus/api"
	"meniscus/lists"
)

// leftOut tells which weighings are left out.
type leftOut [api.MaxSpillWeighings]bool

func leave(weighings ...int) leftOut {
	var left leftOut
	for _, number := range weighings {
		left[number] = true
	}
	return left
}

// weighed are the grams that a place can have by all weighings that are not left
// out.
func (w Works) weighed(at place, left leftOut) Range {
	grams := Range{Hi: mostStock}
	for number, x := range w.Weighings {
		if !left[number] && at == (place{x.Room, x.Day}) {
			grams = grams.and(x.Grams)
		}
	}
	return grams
}

func (w Works) agreeWithout(weighings ...int) bool {
	_, agree := settle(w, leave(weighings...))
	return agree
}

// hasTruth reports whether some truth can be, whatever was weighed.
func (w Works) hasTruth() bool {
	w.Weighings = nil
	return w.agreeWithout()
}

// fewest reports as well whether there are any: there are none if no truth can be.
// This is asked ahead, as else all lists would be tried in vain.
func (w Works) fewest() ([]int, bool) {
	if !w.hasTruth() {
		return nil, false
	}
	for list := range lists.Choices(len(w.Weighings)) {
		if w.agreeWithout(list...) {
			return list, true
		}
	}
	return nil, false
}

// blamed is the weighing that is alone to blame, if there is one.
func (w Works) blamed() (int, bool) {
	var alone []int
	for number := range w.Weighings {
		if w.agreeWithout(number) {
			alone = append(alone, number)
		}
	}
	if len(alone) != 1 || w.agreeWithout() {
		return 0, false
	}
	return alone[0], true
}
