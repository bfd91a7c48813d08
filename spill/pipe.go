package spill

import "meniscus/lists"

// place is a room at the end of a day, or outside.
type place struct{ room, day int }

// outside is one place on all days: all that goes there may come back, so that
// grams only ever go round.
func outside() place { return place{room: Outside} }

// pipe has the grams that go from one place to another one. Its Range has how many
// can.
type pipe struct {
	Range
	from, to place
	grams    int
}

// aim is an end of ranges to which the grams of a pipe are brought: by more of
// them if its sign is 1, by fewer if it is -1.
type aim struct {
	end  func(r Range) int
	sign int
}

func least() aim { return aim{end: Range.low, sign: -1} }

func most() aim { return aim{end: Range.high, sign: 1} }

// way is a pipe through which more grams can go, or fewer, which is as if they
// went back.
type way struct {
	*pipe
	aim
}

// free is how many grams can go this way. It is below 0 for fewer of what has not
// even what it must have.
func (w way) free() int { return w.sign * (w.end(w.Range) - w.grams) }

// ends are where a gram that goes this way comes from, and where it comes to.
func (w way) ends() (from, to place) {
	if w.sign < 0 {
		return w.to, w.from
	}
	return w.from, w.to
}

// send sends as many grams round as can go each of these ways.
func send(round []way) {
	free := make([]int, 0, len(round))
	for _, w := range round {
		free = append(free, w.free())
	}
	grams := lists.Least(free[0], free[1:]...)
	for _, w := range round {
		w.grams += w.sign * grams
	}
}
