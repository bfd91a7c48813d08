package cert_test

import (
	"math"
	"slices"
	"testing"
	"time"

	"meniscus/api"
	"meniscus/bore"
	"meniscus/cert"
	"meniscus/point"
)

func to(lo, hi int) cert.Range { return cert.Range{Lo: lo, Hi: hi} }

func thread(from, in, lo, hi int) bore.Reading {
	return bore.Reading{From: from, In: in, Volume: bore.Range{Lo: lo, Hi: hi}}
}

func tube(cells, lo, hi, total int) bore.Tube {
	return bore.Tube{Cells: cells, Total: total, Cell: bore.Range{Lo: lo, Hi: hi}}
}

func use(from, to, within int) cert.Use { return cert.Use{From: from, To: to, Within: within} }

// steamAt has the pressure 1 only, at which steam is at this height.
func steamAt(height int) (table []point.Step, pressures point.Range) {
	return []point.Step{{Pressure: 1, Height: height}, {Pressure: 2, Height: height + 1}}, point.Range{Lo: 1, Hi: 1}
}

// example is the chapter's.
func example() cert.Instrument {
	return cert.Instrument{
		Tube:      tube(4, 20, 30, 100),
		Readings:  []bore.Reading{thread(0, 1, 40, 40), thread(2, 3, 48, 50)},
		Table:     []point.Step{{Pressure: 720, Height: 985}, {Pressure: 760, Height: 1000}, {Pressure: 800, Height: 1014}},
		Pressures: point.Range{Lo: 760, Hi: 760},
		Drift:     to(1, 3),
	}
}

// at is the example, set at these pressures.
func at(lo, hi int) cert.Instrument {
	x := example()
	x.Pressures = point.Range{Lo: lo, Hi: hi}
	return x
}

// drifting is the example with another Drift.
func drifting(lo, hi int) cert.Instrument {
	x := example()
	x.Drift = to(lo, hi)
	return x
}

// even has so many cells of 10, and steam at this height.
func even(cells, height int, drift cert.Range) cert.Instrument {
	x := cert.Instrument{Tube: tube(cells, 10, 10, 10*cells), Drift: drift}
	x.Table, x.Pressures = steamAt(height)
	return x
}

// reading has these readings instead of the example's.
func reading(l ...bore.Reading) cert.Instrument {
	x := example()
	x.Readings = l
	return x
}

// manySteps are so many, at 753 and beyond.
func manySteps(n int) []point.Step {
	var l []point.Step
	for i := range n {
		l = append(l, point.Step{Pressure: 753 + i, Height: 993 + i})
	}
	return l
}

// P7.1: each limit of instruments, and one beyond it.
func TestCheckInstrument(t *testing.T) {
	for _, c := range []struct {
		name   string
		change func(x *cert.Instrument)
		want   api.Errno
	}{
		{"the example", func(x *cert.Instrument) {}, api.OK},
		{"no readings", func(x *cert.Instrument) { x.Readings = nil }, api.OK},
		{"one cell", func(x *cert.Instrument) { x.Tube, x.Readings = tube(1, 20, 30, 25), nil }, api.OK},
		{"as many cells as there may be", func(x *cert.Instrument) { x.Tube = tube(10, 20, 30, 250) }, api.OK},
		{"one more", func(x *cert.Instrument) { x.Tube = tube(11, 20, 30, 250) }, api.ErrArg},
		{"no cells", func(x *cert.Instrument) { x.Tube, x.Readings = tube(0, 20, 30, 25), nil }, api.ErrArg},
		{"an empty cell", func(x *cert.Instrument) { x.Tube.Cell.Lo = 0 }, api.ErrArg},
		{"a cell that is too large", func(x *cert.Instrument) { x.Tube.Cell.Hi = 201 }, api.ErrArg},
		{"a total that is too small", func(x *cert.Instrument) { x.Tube.Total = 79 }, api.ErrArg},
		{"a total that is too great", func(x *cert.Instrument) { x.Tube.Total = 121 }, api.ErrArg},
		{"as many readings as there may be", func(x *cert.Instrument) { x.Readings = slices.Repeat(x.Readings, 6) }, api.OK},
		{"one more", func(x *cert.Instrument) { x.Readings = append(slices.Repeat(x.Readings, 6), x.Readings[0]) }, api.ErrLimit},
		{"a reading from the last mark", func(x *cert.Instrument) { x.Readings[1] = thread(4, 4, 0, 0) }, api.ErrArg},
		{"a reading beyond the tube", func(x *cert.Instrument) { x.Readings[1] = thread(2, 5, 48, 50) }, api.ErrArg},
		{"a reading that ends below its mark", func(x *cert.Instrument) { x.Readings[1] = thread(2, 1, 48, 50) }, api.ErrArg},
		{"a volume that is no range", func(x *cert.Instrument) { x.Readings[1].Volume.Hi = 47 }, api.ErrArg},
		{"the greatest volume", func(x *cert.Instrument) { x.Readings[1] = thread(2, 4, 48, 2000) }, api.OK},
		{"one beyond it", func(x *cert.Instrument) { x.Readings[1] = thread(2, 4, 48, 2001) }, api.ErrArg},
		{"readings that contradict each other", func(x *cert.Instrument) { x.Readings = append(x.Readings, thread(0, 2, 40, 40)) }, api.ErrFail},
		{"two steps", func(x *cert.Instrument) { x.Table = x.Table[:2] }, api.OK},
		{"one step", func(x *cert.Instrument) { x.Table = x.Table[1:2] }, api.ErrArg},
		{"no table", func(x *cert.Instrument) { x.Table = nil }, api.ErrArg},
		{"as many steps as there may be", func(x *cert.Instrument) { x.Table = manySteps(8) }, api.OK},
		{"one more", func(x *cert.Instrument) { x.Table = manySteps(9) }, api.ErrLimit},
		{"a pressure twice", func(x *cert.Instrument) { x.Table[2].Pressure = 760 }, api.ErrArg},
		{"a height twice", func(x *cert.Instrument) { x.Table[2].Height = 1000 }, api.ErrArg},
		{"the greatest step", func(x *cert.Instrument) { x.Table[2] = point.Step{Pressure: 2000, Height: 2000} }, api.OK},
		{"a pressure beyond it", func(x *cert.Instrument) { x.Table[2] = point.Step{Pressure: 2001, Height: 2000} }, api.ErrArg},
		{"a height beyond it", func(x *cert.Instrument) { x.Table[2] = point.Step{Pressure: 2000, Height: 2001} }, api.ErrArg},
		{"the least step", func(x *cert.Instrument) { x.Table[0] = point.Step{Pressure: 1, Height: 1} }, api.OK},
		{"a pressure below it", func(x *cert.Instrument) { x.Table[0] = point.Step{Pressure: 0, Height: 1} }, api.ErrArg},
		{"a height below it", func(x *cert.Instrument) { x.Table[0] = point.Step{Pressure: 1, Height: 0} }, api.ErrArg},
		{"all pressures", func(x *cert.Instrument) { x.Pressures = point.Range{Lo: 720, Hi: 800} }, api.OK},
		{"one below them", func(x *cert.Instrument) { x.Pressures = point.Range{Lo: 719, Hi: 800} }, api.ErrArg},
		{"one beyond them", func(x *cert.Instrument) { x.Pressures = point.Range{Lo: 720, Hi: 801} }, api.ErrArg},
		{"pressures that are no range", func(x *cert.Instrument) { x.Pressures = point.Range{Lo: 761, Hi: 760} }, api.ErrArg},
		{"the widest Drift", func(x *cert.Instrument) { x.Drift = to(0, 100) }, api.OK},
		{"no Drift", func(x *cert.Instrument) { x.Drift = to(0, 0) }, api.OK},
		{"the greatest Drift", func(x *cert.Instrument) { x.Drift = to(100, 100) }, api.OK},
		{"one beyond it", func(x *cert.Instrument) { x.Drift = to(100, 101) }, api.ErrArg},
		{"all of it beyond it", func(x *cert.Instrument) { x.Drift = to(101, 101) }, api.ErrArg},
		{"a Drift below 0", func(x *cert.Instrument) { x.Drift = to(-1, 0) }, api.ErrArg},
		{"a Drift that is no range", func(x *cert.Instrument) { x.Drift = to(3, 1) }, api.ErrArg},
		{"far numbers", func(x *cert.Instrument) { x.Drift = to(math.MinInt, math.MaxInt) }, api.ErrArg},
		{"far pressures", func(x *cert.Instrument) { x.Pressures = point.Range{Lo: math.MinInt, Hi: math.MaxInt} }, api.ErrArg},
		{"nothing", func(x *cert.Instrument) { *x = cert.Instrument{} }, api.ErrArg},
	} {
		x := example()
		c.change(&x)
		if e := cert.CheckInstrument(x); e != c.want {
			t.Errorf("%s: %v, not %v", c.name, e, c.want)
		}
	}
}

// P7.1: the chapter's examples, and others that were worked out by hand.
func TestHeightsAndCorrections(t *testing.T) {
	for _, c := range []struct {
		name                string
		x                   cert.Instrument
		day                 int
		heights, correction []cert.Range
	}{
		{
			"the example", example(), 0,
			[]cert.Range{to(0, 0), to(200, 300), to(410, 510), to(700, 800), to(1000, 1000)},
			[]cert.Range{to(0, 0), to(-50, 50), to(-90, 10), to(-50, 50), to(0, 0)},
		},
		{
			"behind 200 days", example(), 200,
			[]cert.Range{to(-6, -2), to(194, 298), to(404, 508), to(694, 798), to(994, 998)},
			[]cert.Range{to(-6, -2), to(-56, 48), to(-96, 8), to(-56, 48), to(-6, -2)},
		},
		{
			"at other pressures", at(750, 770), 0,
			[]cert.Range{to(0, 0), to(199, 301), to(408, 512), to(697, 803), to(996, 1003)},
			[]cert.Range{to(0, 0), to(-51, 51), to(-92, 12), to(-53, 53), to(-4, 3)},
		},
		{
			// Of 3 the mark 1 is at a third, which lies between 333 and 334, and tells 333.
			"an even tube", even(3, 1000, to(0, 0)), 0,
			[]cert.Range{to(0, 0), to(333, 334), to(666, 667), to(1000, 1000)},
			[]cert.Range{to(0, 0), to(0, 1), to(0, 1), to(0, 0)},
		},
		{
			"steam that is as high as it can be", even(1, 1999, to(100, 100)), 10000,
			[]cert.Range{to(-10000, -10000), to(-8001, -8001)}, []cert.Range{to(-10000, -10000), to(-9001, -9001)},
		},
		{
			"steam that is as low as it can be", even(2, 1, to(0, 0)), 7,
			[]cert.Range{to(0, 0), to(0, 1), to(1, 1)}, []cert.Range{to(0, 0), to(-500, -499), to(-999, -999)},
		},
	} {
		heights, e := cert.Heights(c.x, c.day)
		corrections, f := cert.Corrections(c.x, c.day)
		if !slices.Equal(heights, c.heights) || e != api.OK {
			t.Errorf("%s: Heights: %v, %v, not %v", c.name, heights, e, c.heights)
		}
		if !slices.Equal(corrections, c.correction) || f != api.OK {
			t.Errorf("%s: Corrections: %v, %v, not %v", c.name, corrections, f, c.correction)
		}
	}
}

// The day, and by how much the zero has risen: the mark 0 of a Drift of 1 to 3.
func TestRisen(t *testing.T) {
	for day, want := range map[int]cert.Range{
		0: to(0, 0), 1: to(-1, 0), 33: to(-1, 0), 34: to(-2, 0), 66: to(-2, 0), 67: to(-3, 0), 99: to(-3, 0),
		100: to(-3, -1), 101: to(-4, -1), 199: to(-6, -1), 200: to(-6, -2), 9999: to(-300, -99), 10000: to(-300, -100),
	} {
		if l, e := cert.Heights(example(), day); e != api.OK || l[0] != want {
			t.Errorf("the day %d: %v, %v, not %v", day, l, e, want)
		}
		if l, e := cert.Heights(drifting(0, 0), day); e != api.OK || l[0] != to(0, 0) {
			t.Errorf("the day %d, without Drift: %v, %v", day, l, e)
		}
		if l, e := cert.Heights(drifting(100, 100), day); e != api.OK || l[0] != to(-day, -day) {
			t.Errorf("the day %d, with the greatest Drift: %v, %v", day, l, e)
		}
	}
}

// Each limit of days, and one beyond it, for all calls with one.
func TestDaysOfCalls(t *testing.T) {
	for day, want := range map[int]api.Errno{
		0: api.OK, 10000: api.OK, -1: api.ErrRange, 10001: api.ErrRange, math.MinInt: api.ErrRange, math.MaxInt: api.ErrRange,
	} {
		x, u := drifting(0, 0), use(0, 4, 100)
		_, heights := cert.Heights(x, day)
		_, corrections := cert.Corrections(x, day)
		_, told := cert.Told(x, point.Scale{Steam: 100}, 0, day)
		_, kept := cert.Kept(x, u, day)
		_, hangs := cert.Hangs(x, u, day)
		_, enough := cert.Enough(x, u, day)
		_, _, best := cert.Best([]cert.Instrument{x}, u, day)
		for call, e := range []api.Errno{heights, corrections, told, kept, hangs, enough, best} {
			if e != want {
				t.Errorf("the day %d: the call %d: %v, not %v", day, call, e, want)
			}
		}
	}
}

// Each limit of uses, and one beyond it, for all calls with one.
func TestUses(t *testing.T) {
	for _, c := range []struct {
		name string
		u    cert.Use
		want api.Errno
	}{
		{"all marks", use(0, 4, 100), api.OK},
		{"the first mark", use(0, 0, 0), api.OK},
		{"the last mark", use(4, 4, 0), api.OK},
		{"a mark behind it", use(4, 5, 1000), api.ErrRange},
		{"only a mark behind it", use(5, 5, 1000), api.ErrRange},
		{"a mark before the first one", use(-1, 4, 1000), api.ErrRange},
		{"only a mark before it", use(-1, -1, 1000), api.ErrRange},
		{"no marks", use(3, 2, 1000), api.ErrRange},
		{"the greatest Within", use(0, 4, 1000), api.OK},
		{"one beyond it", use(0, 4, 1001), api.ErrRange},
		{"a Within below 0", use(0, 0, -1), api.ErrRange},
		{"far numbers", use(math.MinInt, math.MaxInt, math.MinInt), api.ErrRange},
	} {
		x := drifting(0, 0)
		_, kept := cert.Kept(x, c.u, 0)
		_, days := cert.Days(x, c.u)
		_, hangs := cert.Hangs(x, c.u, 0)
		_, enough := cert.Enough(x, c.u, 0)
		_, _, best := cert.Best([]cert.Instrument{x}, c.u, 0)
		for call, e := range []api.Errno{kept, days, hangs, enough, best} {
			if e != c.want {
				t.Errorf("%s: the call %d: %v, not %v", c.name, call, e, c.want)
			}
		}
	}
}

// P7.2: the chapter's example, and others that were worked out by hand.
func TestTold(t *testing.T) {
	celsius, fahrenheit, delisle := point.Scale{Steam: 100}, point.Scale{Ice: 32, Steam: 212}, point.Scale{Ice: 150}
	for _, c := range []struct {
		name      string
		x         cert.Instrument
		s         point.Scale
		mark, day int
		want      point.Range
		e         api.Errno
	}{
		{"the example", example(), celsius, 2, 0, point.Range{Lo: 41, Hi: 51}, api.OK},
		// From 0.4095 to 0.5105 of 180 it is 73.71 to 91.89, of 150 it is 61.425 to 76.575.
		{"on another scale", example(), fahrenheit, 2, 0, point.Range{Lo: 106, Hi: 124}, api.OK},
		{"on a scale that is turned", example(), delisle, 2, 0, point.Range{Lo: 73, Hi: 89}, api.OK},
		{"the first mark", example(), celsius, 0, 0, point.Range{}, api.OK},
		{"the last mark", example(), celsius, 4, 0, point.Range{Lo: 100, Hi: 100}, api.OK},
		{"behind 200 days", example(), celsius, 2, 200, point.Range{Lo: 40, Hi: 51}, api.OK},
		{"below ice", drifting(100, 100), celsius, 0, 10000, point.Range{Lo: -1000, Hi: -1000}, api.OK},
		{"as far as it can be", drifting(100, 100), point.Scale{Ice: -1000, Steam: 1000}, 0, 10000, point.Range{Lo: -21001, Hi: -20999}, api.OK},
		{"as far as it can be, turned", drifting(100, 100), point.Scale{Ice: 1000, Steam: -1000}, 0, 10000, point.Range{Lo: 20999, Hi: 21001}, api.OK},
		{"at 1000, on its own scale", example(), point.Scale{Steam: 1000}, 4, 0, point.Range{Lo: 999, Hi: 1001}, api.OK},
		{"no such mark", example(), celsius, 5, 0, point.Range{}, api.ErrRange},
		{"a mark before the first one", example(), celsius, -1, 0, point.Range{}, api.ErrRange},
		{"a mark of a longer tube", even(1, 1000, to(0, 0)), celsius, 2, 0, point.Range{}, api.ErrRange},
		{"a scale without degrees", example(), point.Scale{Ice: 3, Steam: 3}, 2, 0, point.Range{}, api.ErrArg},
		{"a scale that is too long", example(), point.Scale{Ice: 0, Steam: 1001}, 2, 0, point.Range{}, api.ErrArg},
		{"no scale, and no such mark and day", example(), point.Scale{}, 5, -1, point.Range{}, api.ErrArg},
	} {
		if got, e := cert.Told(c.x, c.s, c.mark, c.day); got != c.want || e != c.e {
			t.Errorf("%s: %v, %v, not %v, %v", c.name, got, e, c.want, c.e)
		}
	}
}

// P7.3: the chapter's examples, and others that were worked out by hand.
func TestKeptAndDays(t *testing.T) {
	none := to(0, -1)
	for _, c := range []struct {
		name string
		x    cert.Instrument
		u    cert.Use
		want cert.Range
	}{
		{"the example", example(), use(0, 4, 100), to(0, 333)},
		{"within as little as can be", example(), use(0, 4, 90), to(0, 0)},
		{"within less", example(), use(0, 4, 89), none},
		{"the example's 80", example(), use(0, 4, 80), none},
		{"a mark alone", example(), use(1, 1, 80), to(0, 1000)},
		{"all but the worst one", example(), use(3, 4, 80), to(0, 1000)},
		{"the worst one last", example(), use(0, 2, 100), to(0, 333)},
		{"the worst one first", example(), use(2, 4, 100), to(0, 333)},
		{"a mark that is exact", example(), use(0, 0, 0), to(0, 0)},
		{"one that is nearly exact", example(), use(4, 4, 1), to(0, 33)},
		// The last mark is at 1014: 14 too high, as long as the zero has not risen.
		{"too high at first", at(800, 800), use(4, 4, 10), to(400, 800)},
		{"too high, or too low", at(800, 800), use(4, 4, 0), none},
		{"too high, or too low, by 1", at(800, 800), use(4, 4, 6), none},
		{"just not", at(800, 800), use(4, 4, 7), to(700, 700)},
		{"with the first mark", at(800, 800), use(0, 4, 14), none},
		{"on the last day", even(1, 1100, to(1, 1)), use(1, 1, 0), to(10000, 10000)},
		{"on the day behind it", even(1, 1101, to(1, 1)), use(1, 1, 0), none},
		{"from a day on", even(1, 1050, to(1, 1)), use(1, 1, 50), to(0, 10000)},
		{"from a later day on", even(1, 1050, to(1, 1)), use(1, 1, 49), to(100, 9900)},
		{"on one day", even(1, 1014, to(1, 1)), use(1, 1, 0), to(1400, 1400)},
		{"without Drift", drifting(0, 0), use(0, 4, 90), to(0, 10000)},
		{"without Drift, within less", drifting(0, 0), use(0, 4, 89), none},
		{"with the greatest Drift", drifting(100, 100), use(0, 4, 100), to(0, 10)},
		{"with the widest Drift", drifting(0, 100), use(0, 4, 1000), to(0, 910)},
		{"always", example(), use(0, 4, 1000), to(0, 10000)},
	} {
		got, e := cert.Days(c.x, c.u)
		if c.want == none && (got != to(0, 0) || e != api.ErrStale) || c.want != none && (got != c.want || e != api.OK) {
			t.Errorf("%s: %v, %v, not %v", c.name, got, e, c.want)
		}
		for _, day := range []int{0, 1, c.want.Lo - 1, c.want.Lo, c.want.Hi, c.want.Hi + 1, 5000, 9999, 10000} {
			is, e := cert.Kept(c.x, c.u, day)
			if day < 0 || day > 10000 {
				continue
			}
			if want := c.want.Lo <= day && day <= c.want.Hi; is != want || e != api.OK {
				t.Errorf("%s: kept on the day %d: %v, %v", c.name, day, is, e)
			}
		}
	}
}

// P7.4: the chapter's examples, and others that were worked out by hand.
func TestHangsAndEnough(t *testing.T) {
	first, second := thread(0, 1, 40, 40), thread(2, 3, 48, 50)
	// The mark 1 of two cells is at 20 to 30 of 50, and steam at 1040. So within 90
	// it is too high above 28, and never too low; within 70 it is too high above 27,
	// and too low below 21.
	two := func(l ...bore.Reading) cert.Instrument {
		x := cert.Instrument{Tube: tube(2, 20, 30, 50), Readings: l}
		x.Table, x.Pressures = steamAt(1040)
		return x
	}
	low, high, lower := thread(0, 0, 21, 21), thread(0, 1, 28, 28), thread(0, 1, 27, 27)
	for _, c := range []struct {
		name          string
		x             cert.Instrument
		u             cert.Use
		day           int
		hangs, enough []int
		e             api.Errno
	}{
		{"the example", example(), use(0, 4, 90), 0, []int{0, 1}, []int{0, 1}, api.OK},
		{"within more", example(), use(0, 4, 100), 0, nil, nil, api.OK},
		// By the first one the mark 2 is at 410 to 600, and 3 to 10 less.
		{"within more, later", example(), use(0, 4, 100), 333, []int{0}, []int{0}, api.OK},
		{"later still", example(), use(0, 4, 100), 334, nil, nil, api.ErrBound},
		{"within less", example(), use(0, 4, 89), 0, nil, nil, api.ErrBound},
		{"no readings", reading(), use(0, 4, 100), 0, nil, nil, api.OK},
		{"no readings, within less", reading(), use(0, 4, 99), 0, nil, nil, api.ErrBound},
		{"one twice", reading(first, first, second), use(0, 4, 90), 0, []int{2}, []int{0, 2}, api.OK},
		{"one twice, apart", reading(first, second, first), use(0, 4, 90), 0, []int{1}, []int{0, 1}, api.OK},
		{"both twice", reading(second, first, first, second), use(0, 4, 90), 0, nil, []int{0, 1}, api.OK},
		{"both, and one that tells nothing", reading(thread(0, 4, 0, 2000), first, second), use(0, 4, 90), 0, []int{1, 2}, []int{1, 2}, api.OK},
		{"as many as there may be", reading(append(slices.Repeat([]bore.Reading{first}, 11), second)...), use(0, 4, 90), 0, []int{11}, []int{0, 11}, api.OK},
		{"one that will do", two(low, high), use(0, 2, 90), 0, []int{1}, []int{1}, api.OK},
		{"two that will do", two(low, high, lower), use(0, 2, 90), 0, nil, []int{1}, api.OK},
		{"two that will do, the other way", two(lower, high, low), use(0, 2, 90), 0, nil, []int{0}, api.OK},
		{"one of them that will not do", two(high, low, lower), use(0, 2, 70), 0, []int{1, 2}, []int{1, 2}, api.OK},
		{"marks that need none", two(low, high, lower), use(2, 2, 40), 0, nil, nil, api.OK},
	} {
		hangs, e := cert.Hangs(c.x, c.u, c.day)
		enough, f := cert.Enough(c.x, c.u, c.day)
		if !slices.Equal(hangs, c.hangs) || e != c.e {
			t.Errorf("%s: Hangs: %v, %v, not %v, %v", c.name, hangs, e, c.hangs, c.e)
		}
		if !slices.Equal(enough, c.enough) || f != c.e {
			t.Errorf("%s: Enough: %v, %v, not %v, %v", c.name, enough, f, c.enough, c.e)
		}
	}
}

// P7.5 and P7.13: within 100 the example keeps all marks up to day 1000 divided
// by Drift's Hi.
func TestBest(t *testing.T) {
	lasting := func(drifts ...int) []cert.Instrument {
		var l []cert.Instrument
		for _, hi := range drifts {
			l = append(l, drifting(0, hi))
		}
		return l
	}
	early, late := use(0, 4, 100), use(4, 4, 10)
	for _, c := range []struct {
		name        string
		l           []cert.Instrument
		u           cert.Use
		day         int
		which, last int
		e           api.Errno
	}{
		{"the example", []cert.Instrument{example()}, early, 0, 0, 333, api.OK},
		{"the first one", lasting(1, 2, 3), early, 0, 0, 1000, api.OK},
		{"one between others", lasting(4, 2, 3), early, 7, 1, 500, api.OK},
		{"the last one", lasting(4, 3, 2), early, 500, 2, 500, api.OK},
		{"two that are as good", lasting(4, 2, 3, 2), early, 0, 1, 500, api.OK},
		{"all of them", lasting(2, 2, 2, 2, 2, 2, 2, 2), early, 0, 0, 500, api.OK},
		{"on none of the days", lasting(1, 2, 3), early, 1001, 0, 0, api.ErrStale},
		{"on no day", lasting(1, 2, 3), use(0, 4, 80), 0, 0, 0, api.ErrStale},
		{"no instrument", nil, early, 0, 0, 0, api.ErrStale},
		{"no instrument, and a use of none", nil, use(3, 2, -1), 10000, 0, 0, api.ErrStale},
		{"no instrument, and no day", nil, early, 10001, 0, 0, api.ErrRange},
		{"up to the last day", lasting(3, 0, 0), early, 10000, 1, 10000, api.OK},
		{"one of those that do not yet", []cert.Instrument{at(800, 800), example()}, late, 399, 0, 0, api.ErrStale},
		{"one that keeps longer, but not yet", []cert.Instrument{at(800, 800), example()}, late, 333, 1, 333, api.OK},
		{"one that does now", []cert.Instrument{example(), at(800, 800)}, late, 400, 1, 800, api.OK},
		{"as many as there may be", lasting(9, 9, 9, 9, 9, 9, 9, 5), early, 0, 7, 200, api.OK},
		{"one more", lasting(9, 9, 9, 9, 9, 9, 9, 5, 4), early, 0, 0, 0, api.ErrLimit},
		{"one more, and nothing is right", make([]cert.Instrument, 9), use(3, 2, -1), -1, 0, 0, api.ErrLimit},
	} {
		which, last, e := cert.Best(c.l, c.u, c.day)
		if which != c.which || last != c.last || e != c.e {
			t.Errorf("%s: %d, %d, %v, not %d, %d, %v", c.name, which, last, e, c.which, c.last, c.e)
		}
	}
}

// P1: all calls come to an end soon, however large their arguments are. Nine of
// the threads tell each of a mark, and of the next one; three tell nothing.
func TestLargest(t *testing.T) {
	x := cert.Instrument{Tube: tube(10, 1, 200, 1000), Drift: to(0, 100)}
	for mark := 1; mark < 10; mark++ {
		x.Readings = append(x.Readings, thread(0, mark, 100*mark, 100*mark))
	}
	x.Readings = append(x.Readings, thread(0, 10, 1000, 2000), thread(0, 10, 1000, 1999), thread(0, 10, 1000, 1998))
	x.Table, x.Pressures = manySteps(8), point.Range{Lo: 753, Hi: 760}
	began := time.Now()
	for within := 0; within <= 1000; within += 50 {
		u := use(0, 10, within)
		is, e := cert.Kept(x, u, 0)
		enough, f := cert.Enough(x, u, 0)
		hangs, g := cert.Hangs(x, u, 0)
		if e != api.OK || is != (f == api.OK) || is != (g == api.OK) || len(enough) > 9 || len(hangs) > len(enough) {
			t.Errorf("within %d: %v, %v; %v, %v; %v, %v", within, is, e, enough, f, hangs, g)
		}
	}
	if _, _, e := cert.Best(slices.Repeat([]cert.Instrument{x}, 8), use(0, 10, 1000), 0); e != api.OK {
		t.Errorf("Best: %v", e)
	}
	if took := time.Since(began); took > 20*time.Second {
		t.Errorf("it took %v", took)
	}
}
