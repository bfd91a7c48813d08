package stem

import (
	"meniscus/api"
	"meniscus/glass"
	"meniscus/lists"
)

// atWork is a reading of a tube. Each call narrows its ranges as far as it knows
// more than the tube and the reading tell.
type atWork struct {
	Tube
	Reading
}

// stemUnit is by what the numbers that make the stem's part are divided.
const stemUnit = 100000

func (w atWork) stem() glass.Range {
	above := less(exactly(w.Shown), times(w.Air, exactly(10)))
	part := times(times(w.K, exactly(w.Bare)), above)
	return glass.Range{Lo: down(part.Lo, stemUnit), Hi: down(part.Hi, stemUnit)}
}

func (w atWork) lagging() glass.Range { return times(w.Rate, w.Lag) }

// pressed is at most 0, as the pressure's part is taken off.
func (w atWork) pressed() glass.Range {
	return less(exactly(0), times(w.Squeeze, exactly(w.Deep)))
}

// part is one that corrects what is shown.
type part struct {
	of func(w atWork) glass.Range
}

func parts() [3]part {
	return [...]part{{of: atWork.stem}, {of: atWork.lagging}, {of: atWork.pressed}}
}

// withZero is the range of what the temperature and the zero make together.
func (w atWork) withZero() glass.Range {
	sum := glass.Range{Lo: w.Shown - w.Error, Hi: w.Shown + w.Error}
	add := func(r glass.Range) {
		sum.Lo += r.Lo
		sum.Hi += r.Hi
	}
	for _, p := range parts() {
		add(p.of(w))
	}
	return sum
}

// holding is the reading in a truth of its tube.
func (w atWork) holding(h held) atWork {
	w.K, w.Lag, w.Squeeze = exactly(h.k), exactly(h.lag), exactly(h.squeeze)
	return w
}

func (w atWork) play(x Truth) int {
	w = w.holding(held{k: x.K, lag: x.Lag, squeeze: x.Squeeze})
	w.Air, w.Rate, w.Error = exactly(x.Air), exactly(x.Rate), 0
	return w.withZero().Lo + x.Off - x.Zero
}

// ice is the one that the reading means, or it reports that there is none. As
// the Zero of an ice is limited, its Error has to reach from there, too.
func (w atWork) ice() (glass.Ice, bool) {
	can := w.withZero()
	half := (can.Hi - can.Lo + 1) / 2
	e := lists.Greatest(half, can.Hi-api.MaxGlassZero, -api.MaxGlassZero-can.Lo)
	if e > api.MaxGlassError {
		return glass.Ice{}, false
	}
	return glass.Ice{Day: w.Day, Zero: lists.Greatest(can.Hi-e, -api.MaxGlassZero), Error: e}, true
}

// asked is a reading with the zeros of its day, of which is asked whether it is
// sure enough for the number most.
type asked struct {
	atWork
	zero glass.Range
	most int
}

func (a asked) temperatures() glass.Range { return less(a.withZero(), a.zero) }

// isSure reports whether the reading is sure enough with so many degrees that
// stand out.
func (a asked) isSure(bare int) bool {
	a.Bare = bare
	t := a.temperatures()
	return t.Hi-t.Lo <= a.most
}

// greatestBare asks of all numbers, the greatest first: as parts are rounded,
// a reading can be less sure with fewer degrees.
func (a asked) greatestBare() (int, bool) {
	willDo, greatest := a.isSure, -1
search:
	for bare := api.MaxStemBare; bare >= 0; bare-- {
		if willDo(bare) {
			greatest = bare
			break search
		}
	}
	return greatest, greatest >= 0
}
