// Package bore is layer 1: threads of mercury tell how high the marks of a
// tube are, whose cells are not known. See shared/doc/01-bore.md.
package bore

import (
	"meniscus/api"
	"meniscus/lists"
)

// Range is all whole numbers from Lo up to Hi.
type Range struct{ Lo, Hi int }

// Tube has cells whose volumes lie in Cell, and are Total together.
type Tube struct {
	Cells, Total int
	Cell         Range
}

// Reading tells in which cell a thread ended that was set on the mark From;
// In is the number of cells if it ended beyond the last mark.
type Reading struct {
	From, In int
	Volume   Range
}

// CheckTube returns the error of the tube, or OK.
func CheckTube(t Tube) api.Errno {
	if !t.valid() {
		return api.ErrArg
	}
	return api.OK
}

// ProveTruth reports whether the volumes are a truth of the readings.
func ProveTruth(t Tube, l []Reading, volumes []int) bool {
	if check(t, l) != api.OK || len(volumes) != t.Cells || !lists.All(volumes, t.Cell.has) {
		return false
	}
	h := heightsOf(volumes)
	return h[t.Cells] == t.Total && lists.All(l, h.agree)
}

// Heights returns the bounds of all marks.
func Heights(t Tube, l []Reading) ([]Range, api.Errno) {
	b, e := readFor(t, l, true)
	if e != api.OK {
		return nil, e
	}
	return b.bounds(), api.OK
}

// Places returns the range of the places of each mark.
func Places(t Tube, l []Reading) ([]Range, api.Errno) {
	list, e := Heights(t, l)
	if e != api.OK {
		return nil, e
	}
	for mark, r := range list {
		list[mark] = Range{Lo: t.place(r.Lo), Hi: t.place(r.Hi)}
	}
	return list, api.OK
}

// Doubt returns the greatest width of any mark's bounds.
func Doubt(t Tube, l []Reading) (int, api.Errno) {
	b, e := readFor(t, l, true)
	if e != api.OK {
		return 0, e
	}
	return b.doubt(), api.OK
}

// Shows returns the volumes of a truth in which the mark is as high, or as
// low, as it can be.
func Shows(t Tube, l []Reading, mark int, high bool) ([]int, api.Errno) {
	b, e := readFor(t, l, 0 <= mark && mark <= t.Cells)
	if e != api.OK {
		return nil, e
	}
	if high {
		return b.volumesAt(bothEnds().hi), api.OK
	}
	return b.volumesAt(bothEnds().lo), api.OK
}

// Knot returns readings that contradict each other, but do not if any one of
// them is left out.
func Knot(t Tube, l []Reading) ([]int, api.Errno) {
	if e := check(t, l); e != api.OK {
		return nil, e
	}
	every := numbersBelow(len(l))
	if !contradict(t, l, every) {
		return nil, api.ErrNone
	}
	return knotOf(t, l, every), api.OK
}

// ProveKnot reports whether the list is a knot of the readings.
func ProveKnot(t Tube, l []Reading, knot []int) bool {
	if check(t, l) != api.OK || !lists.Rises(knot) || !lists.All(knot, Range{Lo: 0, Hi: len(l) - 1}.has) {
		return false
	}
	return contradict(t, l, knot) && len(knotOf(t, l, knot)) == len(knot)
}

// Blame returns the fewest readings that need not be believed.
func Blame(t Tube, l []Reading) ([]int, api.Errno) {
	if e := check(t, l); e != api.OK {
		return nil, e
	}
	return fewest(t, l), api.OK
}

// Next returns the mark from which a thread of the volume surely tells most,
// and the doubt behind it.
func Next(t Tube, l []Reading, volume Range) (mark, doubt int, e api.Errno) {
	b, e := readFor(t, l, volume.liesIn(0, api.MaxBoreTotal))
	if e != api.OK {
		return 0, 0, e
	}
	mark, doubt = b.best(volume)
	return mark, doubt, api.OK
}
