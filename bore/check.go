package bore

import (
	"meniscus/api"
	"meniscus/lists"
)

func (r Range) has(number int) bool { return r.Lo <= number && number <= r.Hi }

func (r Range) liesIn(lo, hi int) bool { return lo <= r.Lo && r.Lo <= r.Hi && r.Hi <= hi }

// valid asks for the ends of Cell before it multiplies them: what is not valid
// might not fit into an int.
func (t Tube) valid() bool {
	if t.Cells < 1 || t.Cells > api.MaxBoreCells || !t.Cell.liesIn(1, api.MaxBoreCell) {
		return false
	}
	possible := Range{Lo: t.Cells * t.Cell.Lo, Hi: t.Cells * t.Cell.Hi}
	return t.Total <= api.MaxBoreTotal && possible.has(t.Total)
}

// allows reports whether the reading is one of the tube.
func (t Tube) allows(r Reading) bool {
	return 0 <= r.From && r.From < t.Cells && r.From <= r.In && r.In <= t.Cells &&
		r.Volume.liesIn(0, api.MaxBoreTotal)
}

// place is where a mark of the height would stand in an even tube.
func (t Tube) place(height int) int { return 1000 * t.Cells * height / t.Total }

func check(t Tube, l []Reading) api.Errno {
	if e := CheckTube(t); e != api.OK {
		return e
	}
	if len(l) > api.MaxBoreReadings {
		return api.ErrLimit
	}
	if !lists.All(l, t.allows) {
		return api.ErrRange
	}
	return api.OK
}

// readFor reads the tube for a call whose other arguments are in range, or not:
// this is asked behind the readings, and before whether they contradict each
// other.
func readFor(t Tube, l []Reading, inRange bool) (readTube, api.Errno) {
	if e := check(t, l); e != api.OK {
		return readTube{}, e
	}
	if !inRange {
		return readTube{}, api.ErrRange
	}
	b, ok := read(t, l)
	if !ok {
		return readTube{}, api.ErrFail
	}
	return b, api.OK
}

// heights are those of all marks in one truth.
type heights []int

func heightsOf(volumes []int) heights {
	h := make(heights, 0, len(volumes)+1)
	sum := 0
	h = append(h, sum)
	for _, v := range volumes {
		sum += v
		h = append(h, sum)
	}
	return h
}

// agree reports whether the reading is right with these heights.
func (h heights) agree(r Reading) bool {
	low := lists.Greatest(r.Volume.Lo, h[r.In]-h[r.From])
	high := r.Volume.Hi
	if r.In+1 < len(h) {
		high = lists.Least(high, h[r.In+1]-h[r.From]-1)
	}
	return low <= high
}
