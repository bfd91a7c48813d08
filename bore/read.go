package bore

import (
	"iter"

	"meniscus/gaps"
	"meniscus/lists"
)

// readTube is a tube with all that its cells and its readings say together: its
// marks are the things that are apart.
type readTube struct {
	Tube
	gaps.Gaps
}

// unread is the tube without readings.
func unread(t Tube) readTube {
	b := readTube{Tube: t, Gaps: gaps.Gaps{Things: t.Cells + 1}}
	for low := 0; low <= t.Cells; low++ {
		for high := low; high <= t.Cells; high++ {
			b.Most[low][high] = (high - low) * t.Cell.Hi
			b.Most[high][low] = (low - high) * t.Cell.Lo
		}
	}
	b.Limit(0, t.Cells, t.Total)
	b.Limit(t.Cells, 0, -t.Total)
	return b
}

// read reads the tube by all readings, and reports whether they have a truth.
// One that comes twice says nothing more.
func read(t Tube, l []Reading) (readTube, bool) {
	b, ok := unread(t), true
	seen := map[Reading]bool{}
	for _, r := range l {
		if seen[r] {
			continue
		}
		seen[r] = true
		if b, ok = b.with(r); !ok {
			return readTube{}, false
		}
	}
	return b, true
}

// with is the tube with one reading more, and whether there is a truth still.
// As no cell is empty, a number of Volume that is not below the height of In
// and one that is below that of the next mark can always be the same.
func (b readTube) with(r Reading) (readTube, bool) {
	if !b.Limit(r.From, r.In, r.Volume.Hi) {
		return readTube{}, false
	}
	if r.In < b.Cells && !b.Limit(r.In+1, r.From, -r.Volume.Lo-1) {
		return readTube{}, false
	}
	return b, true
}

// ends tell the ends of the bounds of a mark.
type ends struct {
	lo, hi func(b *readTube, mark int) int
}

func bothEnds() ends { return ends{lo: (*readTube).Lowest, hi: (*readTube).Highest} }

func (b readTube) bounds() []Range {
	e := bothEnds()
	list := make([]Range, 0, b.Cells+1)
	for mark := 0; mark <= b.Cells; mark++ {
		list = append(list, Range{Lo: e.lo(&b, mark), Hi: e.hi(&b, mark)})
	}
	return list
}

// volumesAt are those of the truth in which each mark is at this end: all marks
// reach their lower ends together, and their upper ones too.
func (b readTube) volumesAt(end func(b *readTube, mark int) int) []int {
	volumes := make([]int, 0, b.Cells)
	for cell := 0; cell < b.Cells; cell++ {
		volumes = append(volumes, end(&b, cell+1)-end(&b, cell))
	}
	return volumes
}

func (b readTube) doubt() int {
	doubt := 0
	for _, r := range b.bounds() {
		doubt = lists.Greatest(doubt, r.Hi-r.Lo)
	}
	return doubt
}

// cellsFrom are the cells in which a thread from the mark can end, and behind
// them the number of cells, for one that ends beyond the last mark.
func (t Tube) cellsFrom(mark int) iter.Seq[int] {
	return func(yield func(int) bool) {
		for in := mark; in <= t.Cells; in++ {
			if !yield(in) {
				return
			}
		}
	}
}

func (b readTube) doubtBehind(mark int, volume Range) int {
	doubt := 0
	for in := range b.cellsFrom(mark) {
		if more, ok := b.with(Reading{From: mark, In: in, Volume: volume}); ok {
			doubt = lists.Greatest(doubt, more.doubt())
		}
	}
	return doubt
}

// best is the mark with the least doubt behind it, and this doubt.
func (b readTube) best(volume Range) (mark, doubt int) {
	doubts := make([]int, 0, b.Cells)
	for from := 0; from < b.Cells; from++ {
		doubts = append(doubts, b.doubtBehind(from, volume))
	}
	doubt = lists.Least(doubts[0], doubts[1:]...)
	for doubts[mark] != doubt {
		mark++
	}
	return mark, doubt
}
