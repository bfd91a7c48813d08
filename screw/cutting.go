package screw

import (
	"sort"

	"meniscus/api"
)

// cut is a line, the tick at which it is cut, and how many ticks the engine went
// on for it from the line before it: none for the first line.
type cut struct{ line, tick, setting int }

// ahead is where the engine is ahead of the first line.
func ahead() cut { return cut{line: -1, tick: -1} }

// then is the next line, if it is cut at the tick.
func (c cut) then(tick int) cut {
	if c == ahead() {
		return cut{tick: tick}
	}
	return cut{line: c.line + 1, tick: tick, setting: tick - c.tick}
}

// settingsTo is how many settings the next line needs that this one has not.
func (c cut) settingsTo(next cut) int {
	if next.setting == c.setting {
		return 0
	}
	return 1
}

func settingsOf(cutting []int) int {
	settings, c := 0, ahead()
	for _, tick := range cutting {
		next := c.then(tick)
		settings += c.settingsTo(next)
		c = next
	}
	return settings
}

// rights are for each line the ticks that are right for it.
type rights [api.MaxScrewLines][]int

// rightFor reports as well whether each line of the scale has a right tick.
func (t task) rightFor(scale []int) (rights, bool) {
	var r rights
	for number, place := range scale {
		r[number] = t.ticks(place)
		if len(r[number]) == 0 {
			return rights{}, false
		}
	}
	return r, true
}

// rest is what can come behind a cut: the fewest settings that the lines behind
// it need, and the least tick for the next line with which they need no more.
type rest struct{ settings, next int }

// noWay are more settings than lines can have.
const noWay = api.MaxScrewLines

// best is the best cutting of so many lines, the number of its settings, and
// whether there is one.
func (r rights) best(lines int) (cutting []int, settings int, ok bool) {
	known := map[cut]rest{}
	var behind func(c cut) rest
	behind = func(c cut) rest {
		if c.line == lines-1 {
			return rest{}
		}
		if fewest, done := known[c]; done {
			return fewest
		}
		fewest := rest{settings: noWay}
		for _, tick := range r[c.line+1] {
			next := c.then(tick)
			more := c.settingsTo(next)
			// What is not fewer already needs no look at the lines behind it.
			if tick <= c.tick || more >= fewest.settings {
				continue
			}
			if more += behind(next).settings; more < fewest.settings {
				fewest = rest{settings: more, next: tick}
			}
		}
		known[c] = fewest
		return fewest
	}
	settings = behind(ahead()).settings
	if settings == noWay {
		return nil, 0, false
	}
	for c := ahead(); len(cutting) < lines; {
		c = c.then(behind(c).next)
		cutting = append(cutting, c.tick)
	}
	return cutting, settings, true
}

// canCut reports whether some cutting keeps the bound. Each line takes the first
// right tick behind that of the line before it, as this leaves the most for the
// lines behind it.
func (t task) canCut(scale []int) bool {
	tick := -1
search:
	for _, place := range scale {
		for tick < t.Ticks {
			tick++
			if t.right(line{place: place, tick: tick}) {
				continue search
			}
		}
		return false
	}
	return true
}

// printed is the printed bound of a scale with no more lines than there are
// ticks, and one. The search may end at MaxScrewPlace: the ticks with the lines'
// own numbers lie so near 0 that no line that is cut there is out by more.
func (e engine) printed(scale []int) int {
	return sort.Search(api.MaxScrewPlace, func(bound int) bool {
		return task{engine: e, bound: bound}.canCut(scale)
	})
}
