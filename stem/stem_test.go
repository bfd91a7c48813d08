package stem_test

import (
	"math"
	"slices"
	"testing"
	"time"

	"meniscus/api"
	"meniscus/glass"
	"meniscus/stem"
)

func to(lo, hi int) glass.Range { return glass.Range{Lo: lo, Hi: hi} }

func ice(day, zero, e int) glass.Ice { return glass.Ice{Day: day, Zero: zero, Error: e} }

func ices(list ...glass.Ice) []glass.Ice { return list }

func readings(list ...stem.Reading) []stem.Reading { return list }

// exampleGlass, example, exampleHistory and exampleReading are the chapter's.
func exampleGlass() glass.Glass {
	return glass.Glass{
		Bands:  []glass.Band{{From: 0, Creep: to(1, 2)}, {From: 3, Creep: to(0, 1)}},
		Depths: []glass.Depth{{From: 100, Sink: 10}, {From: 300, Sink: 25}},
		Back:   to(2, 4),
	}
}

func example() stem.Tube {
	return stem.Tube{Glass: exampleGlass(), K: to(15, 17), Lag: to(1, 2), Squeeze: to(0, 1), Term: 2}
}

func exampleHistory() []glass.Range {
	return []glass.Range{to(0, 0), to(150, 150), to(0, 20), to(0, 350)}
}

func exampleReading() stem.Reading {
	return stem.Reading{Day: 2, Shown: 2000, Error: 2, Bare: 100, Air: to(20, 30), Rate: to(0, 3), Deep: 2}
}

func exampleTruth() stem.Truth {
	return stem.Truth{Zero: -3, K: 15, Lag: 2, Squeeze: 1, Air: 30, Rate: 3, Off: 1}
}

// shown is a reading without a stem that stands out, lag and pressure.
func shown(day, degrees, e int) stem.Reading {
	return stem.Reading{Day: day, Shown: degrees, Error: e}
}

// stillGlass neither creeps nor sinks: its zero is 0.
func stillGlass() glass.Glass {
	return glass.Glass{Bands: []glass.Band{{}}, Depths: []glass.Depth{{}}}
}

// still is a tube of it that has exact parts, and whose ice is good for all days.
func still(k, lag, squeeze int) stem.Tube {
	return stem.Tube{Glass: stillGlass(), K: to(k, k), Lag: to(lag, lag), Squeeze: to(squeeze, squeeze), Term: api.MaxStemTerm}
}

func days(n int) []glass.Range { return slices.Repeat([]glass.Range{to(0, 0)}, n) }

// P6.1
func TestCheckTube(t *testing.T) {
	for _, x := range []struct {
		name   string
		change func(t *stem.Tube)
		want   api.Errno
	}{
		{"the example", func(t *stem.Tube) {}, api.OK},
		{"the greatest K", func(t *stem.Tube) { t.K = to(20, 20) }, api.OK},
		{"one beyond it", func(t *stem.Tube) { t.K = to(20, 21) }, api.ErrArg},
		{"the least K", func(t *stem.Tube) { t.K = to(0, 0) }, api.OK},
		{"one below it", func(t *stem.Tube) { t.K = to(-1, 0) }, api.ErrArg},
		{"a K that is no range", func(t *stem.Tube) { t.K = to(3, 2) }, api.ErrArg},
		{"the greatest Lag", func(t *stem.Tube) { t.Lag = to(0, 5) }, api.OK},
		{"one beyond it", func(t *stem.Tube) { t.Lag = to(0, 6) }, api.ErrArg},
		{"a Lag below 0", func(t *stem.Tube) { t.Lag = to(-1, 5) }, api.ErrArg},
		{"a Lag that is no range", func(t *stem.Tube) { t.Lag = to(1, 0) }, api.ErrArg},
		{"the greatest Squeeze", func(t *stem.Tube) { t.Squeeze = to(0, 3) }, api.OK},
		{"one beyond it", func(t *stem.Tube) { t.Squeeze = to(0, 4) }, api.ErrArg},
		{"a Squeeze below 0", func(t *stem.Tube) { t.Squeeze = to(-1, 3) }, api.ErrArg},
		{"a Squeeze that is no range", func(t *stem.Tube) { t.Squeeze = to(1, 0) }, api.ErrArg},
		{"the greatest Term", func(t *stem.Tube) { t.Term = 16 }, api.OK},
		{"one beyond it", func(t *stem.Tube) { t.Term = 17 }, api.ErrArg},
		{"the least Term", func(t *stem.Tube) { t.Term = 0 }, api.OK},
		{"one below it", func(t *stem.Tube) { t.Term = -1 }, api.ErrArg},
		{"far numbers", func(t *stem.Tube) { t.K, t.Term = to(math.MinInt, math.MaxInt), math.MaxInt }, api.ErrArg},
		{"a glass that is none", func(t *stem.Tube) { t.Glass.Base = 1001 }, api.ErrArg},
		{"a glass without depths", func(t *stem.Tube) { t.Glass.Depths = nil }, api.ErrArg},
		{"a glass with too many bands", func(t *stem.Tube) { t.Glass.Bands = make([]glass.Band, 4) }, api.ErrLimit},
		{"one with too many depths, and all else is wrong", func(t *stem.Tube) { *t = stem.Tube{Glass: glass.Glass{Depths: make([]glass.Depth, 5)}, Term: -1} }, api.ErrLimit},
		{"nothing", func(t *stem.Tube) { *t = stem.Tube{} }, api.ErrArg},
	} {
		tube := example()
		x.change(&tube)
		if e := stem.CheckTube(tube); e != x.want {
			t.Errorf("%s: %v, not %v", x.name, e, x.want)
		}
	}
}

// Each limit of readings, and one beyond it, for all calls with a reading.
func TestReadings(t *testing.T) {
	for _, x := range []struct {
		name   string
		change func(r *stem.Reading)
		want   api.Errno
	}{
		{"nothing", func(r *stem.Reading) {}, api.OK},
		{"the greatest Shown", func(r *stem.Reading) { r.Shown = 5000 }, api.OK},
		{"one beyond it", func(r *stem.Reading) { r.Shown = 5001 }, api.ErrRange},
		{"the least Shown", func(r *stem.Reading) { r.Shown = -5000 }, api.OK},
		{"one below it", func(r *stem.Reading) { r.Shown = -5001 }, api.ErrRange},
		{"the greatest Error", func(r *stem.Reading) { r.Error = 20 }, api.OK},
		{"one beyond it", func(r *stem.Reading) { r.Error = 21 }, api.ErrRange},
		{"an Error below 0", func(r *stem.Reading) { r.Error = -1 }, api.ErrRange},
		{"the greatest Bare", func(r *stem.Reading) { r.Bare = 300 }, api.OK},
		{"one beyond it", func(r *stem.Reading) { r.Bare = 301 }, api.ErrRange},
		{"a Bare below 0", func(r *stem.Reading) { r.Bare = -1 }, api.ErrRange},
		{"the widest Air", func(r *stem.Reading) { r.Air = to(-100, 100) }, api.OK},
		{"Air beyond it", func(r *stem.Reading) { r.Air = to(-100, 101) }, api.ErrRange},
		{"Air below it", func(r *stem.Reading) { r.Air = to(-101, 100) }, api.ErrRange},
		{"Air that is no range", func(r *stem.Reading) { r.Air = to(1, 0) }, api.ErrRange},
		{"the widest Rate", func(r *stem.Reading) { r.Rate = to(-20, 20) }, api.OK},
		{"a Rate beyond it", func(r *stem.Reading) { r.Rate = to(-20, 21) }, api.ErrRange},
		{"a Rate below it", func(r *stem.Reading) { r.Rate = to(-21, 20) }, api.ErrRange},
		{"a Rate that is no range", func(r *stem.Reading) { r.Rate = to(1, 0) }, api.ErrRange},
		{"the greatest Deep", func(r *stem.Reading) { r.Deep = 20 }, api.OK},
		{"one beyond it", func(r *stem.Reading) { r.Deep = 21 }, api.ErrRange},
		{"a Deep below 0", func(r *stem.Reading) { r.Deep = -1 }, api.ErrRange},
		{"a day before the first one", func(r *stem.Reading) { r.Day = -1 }, api.ErrRange},
		{"far numbers", func(r *stem.Reading) { r.Shown, r.Air, r.Deep = math.MinInt, to(math.MinInt, math.MaxInt), math.MaxInt }, api.ErrRange},
	} {
		var r stem.Reading
		x.change(&r)
		tube := still(0, 0, 0)
		truth := stem.Truth{Air: r.Air.Lo, Rate: r.Rate.Hi}
		_, play := stem.Play(tube, r, truth)
		_, correct := stem.Correct(tube, days(2), nil, r)
		_, accept := stem.Accept(tube, days(2), nil, r, 40)
		_, bare := stem.Bare(tube, days(2), nil, r, 40)
		_, same := stem.Same(tube, days(2), nil, readings(r))
		_, later := stem.Same(tube, days(2), nil, readings(r, r, r))
		for call, e := range []api.Errno{play, correct, accept, bare, same, later} {
			if e != x.want {
				t.Errorf("%s: the call %d: %v, not %v", x.name, call, e, x.want)
			}
		}
		if _, e := stem.IceOf(tube, r); (e == api.ErrRange) != (x.want == api.ErrRange) {
			t.Errorf("%s: IceOf: %v", x.name, e)
		}
	}
}

// The days of readings: those of the history, and as many as one can have for
// calls without one.
func TestDays(t *testing.T) {
	for day, want := range map[int]api.Errno{0: api.OK, 3: api.OK, 4: api.ErrRange, -1: api.ErrRange, math.MaxInt: api.ErrRange} {
		_, correct := stem.Correct(still(0, 0, 0), days(4), nil, shown(day, 0, 0))
		_, accept := stem.Accept(still(0, 0, 0), days(4), nil, shown(day, 0, 0), 0)
		_, bare := stem.Bare(still(0, 0, 0), days(4), nil, shown(day, 0, 0), 0)
		_, same := stem.Same(still(0, 0, 0), days(4), nil, readings(shown(day, 0, 0)))
		for call, e := range []api.Errno{correct, accept, bare, same} {
			if e != want {
				t.Errorf("the day %d of 4: the call %d: %v, not %v", day, call, e, want)
			}
		}
	}
	for day, want := range map[int]api.Errno{0: api.OK, 15: api.OK, 16: api.ErrRange, -1: api.ErrRange, math.MinInt: api.ErrRange} {
		_, play := stem.Play(still(0, 0, 0), shown(day, 0, 0), stem.Truth{})
		i, e := stem.IceOf(still(0, 0, 0), shown(day, 0, 0))
		if play != want || e != want || e == api.OK && i != ice(day, 0, 0) {
			t.Errorf("the day %d without a history: %v; %v, %v, not %v", day, play, i, e, want)
		}
	}
}

// P6.1: the chapter's example, and others that were worked out by hand.
func TestPlay(t *testing.T) {
	cold := stem.Reading{Shown: -300, Bare: 7, Air: to(20, 30), Rate: to(-3, 3), Deep: 20}
	for _, x := range []struct {
		name string
		t    stem.Tube
		r    stem.Reading
		x    stem.Truth
		want int
	}{
		{"the example", example(), exampleReading(), exampleTruth(), 2033},
		{"nothing", still(0, 0, 0), shown(0, 0, 0), stem.Truth{}, 0},
		{"above the zero", still(0, 0, 0), shown(15, 70, 4), stem.Truth{Zero: 9, Off: -4}, 57},
		{"below the zero", still(0, 0, 0), shown(0, 70, 4), stem.Truth{Zero: -9, Off: 4}, 83},
		// 15 times 7 times -600, divided by 100000: -0.63.
		{"air that is warmer", still(15, 0, 0), cold, stem.Truth{K: 15, Air: 30}, -301},
		// 20 times 300 times 500: 30 as it is; of 499 it is 29.94.
		{"a part that is whole", still(20, 0, 0), stem.Reading{Shown: 500, Bare: 300}, stem.Truth{K: 20}, 530},
		{"one that is nearly whole", still(20, 0, 0), stem.Reading{Shown: 499, Bare: 300}, stem.Truth{K: 20}, 528},
		{"one that is whole below 0", still(20, 0, 0), stem.Reading{Shown: -500, Bare: 300}, stem.Truth{K: 20}, -530},
		{"one that is a little below 0", still(1, 0, 0), stem.Reading{Shown: -1, Bare: 1}, stem.Truth{K: 1}, -2},
		{"a bath that gets colder", still(0, 2, 0), cold, stem.Truth{Lag: 2, Rate: -3, Air: 20}, -306},
		{"in the deep", still(0, 0, 3), cold, stem.Truth{Squeeze: 3, Air: 20}, -360},
		{"as much as may be", stem.Tube{Glass: stillGlass(), K: to(0, 20), Lag: to(0, 5)}, stem.Reading{Shown: 5000, Error: 20, Bare: 300, Air: to(-100, 0), Rate: to(0, 20)}, stem.Truth{Zero: -2000, K: 20, Lag: 5, Air: -100, Rate: 20, Off: 20}, 7480},
		{"as little as may be", stem.Tube{Glass: stillGlass(), K: to(0, 20), Lag: to(0, 5), Squeeze: to(0, 3)}, stem.Reading{Shown: -5000, Error: 20, Bare: 300, Air: to(0, 100), Rate: to(-20, 0), Deep: 20}, stem.Truth{Zero: 2000, K: 20, Lag: 5, Squeeze: 3, Air: 100, Rate: -20, Off: -20}, -7540},
	} {
		if got, e := stem.Play(x.t, x.r, x.x); got != x.want || e != api.OK {
			t.Errorf("%s: %d, %v, not %d", x.name, got, e, x.want)
		}
	}
	broken := exampleReading()
	broken.Broken, broken.Day = true, 15
	if got, e := stem.Play(example(), broken, exampleTruth()); got != 2033 || e != api.OK {
		t.Errorf("it need be neither whole nor fresh: %d, %v", got, e)
	}
}

// P6.1: each number of a truth, at its ends, and one beyond them.
func TestTruths(t *testing.T) {
	tube, r := example(), exampleReading()
	tube.Squeeze = to(1, 2)
	numbers := []struct {
		name   string
		change func(x *stem.Truth, n int)
		r      glass.Range
	}{
		{"K", func(x *stem.Truth, n int) { x.K = n }, tube.K},
		{"Lag", func(x *stem.Truth, n int) { x.Lag = n }, tube.Lag},
		{"Squeeze", func(x *stem.Truth, n int) { x.Squeeze = n }, tube.Squeeze},
		{"Air", func(x *stem.Truth, n int) { x.Air = n }, r.Air},
		{"Rate", func(x *stem.Truth, n int) { x.Rate = n }, r.Rate},
		{"Off", func(x *stem.Truth, n int) { x.Off = n }, to(-2, 2)},
		{"Zero", func(x *stem.Truth, n int) { x.Zero = n }, to(-2000, 2000)},
	}
	for _, number := range numbers {
		for n, want := range map[int]api.Errno{
			number.r.Lo: api.OK, number.r.Hi: api.OK, number.r.Lo - 1: api.ErrRange, number.r.Hi + 1: api.ErrRange,
			math.MinInt: api.ErrRange, math.MaxInt: api.ErrRange,
		} {
			x := exampleTruth()
			number.change(&x, n)
			if got, e := stem.Play(tube, r, x); e != want || e != api.OK && got != 0 {
				t.Errorf("%s of %d: %d, %v, not %v", number.name, n, got, e, want)
			}
		}
	}
}

// P6.2 and P6.8: the chapter's examples, and others that were worked out by hand.
func TestCorrectAndAccept(t *testing.T) {
	warm := exampleReading()
	warm.Air = to(190, 210) // not valid
	for _, x := range []struct {
		name string
		t    stem.Tube
		ices []glass.Ice
		r    stem.Reading
		want glass.Range
		e    api.Errno
	}{
		{"the example", example(), nil, exampleReading(), to(2021, 2043), api.OK},
		{"Air that is too warm", example(), nil, warm, to(0, 0), api.ErrRange},
		// The zeros are from -5 to 0, with this ice from -2 to 0.
		{"no parts", example(), nil, shown(2, 100, 1), to(99, 106), api.OK},
		{"an ice behind the reading", example(), ices(ice(3, 4, 1)), shown(2, 100, 1), to(99, 103), api.OK},
		{"of the first day", example(), nil, shown(0, 100, 0), to(98, 99), api.OK},
		// 15..17 times 100 times (-2000 less 200..300): -40 at most, -35 (-34.5) at least.
		{"a stem that is colder than the air", example(), nil, stem.Reading{Shown: -2000, Bare: 100, Air: to(30, 100)}, to(-2053, -2036), api.OK},
		// Air on both sides of what is shown: 17 times 100 times (-100 to 100), which is -1.7 to 1.7.
		{"air as warm as the bath", example(), nil, stem.Reading{Shown: 500, Bare: 100, Air: to(40, 60)}, to(496, 500), api.OK},
		{"a bath that gets warmer, or colder", example(), nil, stem.Reading{Shown: 500, Rate: to(-3, 2)}, to(492, 503), api.OK},
		{"a bath that gets colder", example(), nil, stem.Reading{Shown: 500, Rate: to(-3, -2)}, to(492, 497), api.OK},
		{"in the deep", example(), nil, stem.Reading{Shown: 500, Deep: 20}, to(478, 499), api.OK},
	} {
		got, e := stem.Correct(x.t, exampleHistory(), x.ices, x.r)
		if got != x.want || e != x.e {
			t.Errorf("%s: %v, %v, not %v, %v", x.name, got, e, x.want, x.e)
		}
		if e != api.OK {
			continue
		}
		for most, want := range map[int]api.Errno{x.want.Hi - x.want.Lo: api.OK, x.want.Hi - x.want.Lo - 1: api.ErrBound, math.MaxInt: api.OK, -1: api.ErrRange, math.MinInt: api.ErrRange} {
			got, e := stem.Accept(x.t, exampleHistory(), x.ices, x.r, most)
			if e != want || e == api.OK && got != x.want || e != api.OK && got != to(0, 0) {
				t.Errorf("%s, accepted for %d: %v, %v, not %v", x.name, most, got, e, want)
			}
		}
	}
	if got, e := stem.Accept(still(20, 5, 3), days(1), nil, shown(0, 7, 0), 0); got != to(7, 7) || e != api.OK {
		t.Errorf("for 0: %v, %v", got, e)
	}
}

// P6.12, and the definition of stale: the last ice counts that is not behind the
// reading, wherever it is listed.
func TestStale(t *testing.T) {
	for _, x := range []struct {
		name      string
		term, day int
		ices      []glass.Ice
		want      api.Errno
	}{
		{"as many days as there may be, without ice", 2, 2, nil, api.OK},
		{"one more", 2, 3, nil, api.ErrStale},
		{"no days, on the first one", 0, 0, nil, api.OK},
		{"no days, later", 0, 1, nil, api.ErrStale},
		{"all days", 16, 15, nil, api.OK},
		{"one day fewer than there are", 14, 15, nil, api.ErrStale},
		{"an ice on the day", 0, 7, ices(ice(7, 0, 0)), api.OK},
		{"an ice on the day before", 0, 8, ices(ice(7, 0, 0)), api.ErrStale},
		{"an ice as long ago as it may be", 3, 10, ices(ice(7, 0, 0)), api.OK},
		{"an ice longer ago", 3, 11, ices(ice(7, 0, 0)), api.ErrStale},
		{"an ice behind it", 3, 4, ices(ice(5, 0, 0)), api.ErrStale},
		{"an ice behind it, which is not needed", 3, 3, ices(ice(5, 0, 0)), api.OK},
		{"the last ice is listed first", 3, 10, ices(ice(8, 0, 0), ice(12, 0, 0), ice(2, 0, 0)), api.OK},
		{"it is listed last", 3, 10, ices(ice(2, 0, 0), ice(12, 0, 0), ice(8, 0, 0)), api.OK},
		{"none of many is fresh", 3, 12, ices(ice(2, 0, 0), ice(13, 0, 0), ice(8, 0, 0)), api.ErrStale},
		{"an ice of the day 0 is as none", 3, 4, ices(ice(0, 0, 0)), api.ErrStale},
	} {
		tube := still(0, 0, 0)
		tube.Term = x.term
		r := shown(x.day, 10, 0)
		_, correct := stem.Correct(tube, days(16), x.ices, r)
		_, accept := stem.Accept(tube, days(16), x.ices, r, 0)
		_, bare := stem.Bare(tube, days(16), x.ices, r, 0)
		_, same := stem.Same(tube, days(16), x.ices, readings(r, r))
		for call, e := range []api.Errno{correct, accept, bare, same} {
			if e != x.want {
				t.Errorf("%s: the call %d: %v, not %v", x.name, call, e, x.want)
			}
		}
		if _, e := stem.IceOf(tube, r); e != api.OK {
			t.Errorf("%s: IceOf: %v", x.name, e)
		}
	}
	late := exampleReading()
	late.Day = 3
	if got, e := stem.Correct(example(), exampleHistory(), nil, late); got != to(0, 0) || e != api.ErrStale {
		t.Errorf("the example: %v, %v", got, e)
	}
}

// P6.3 and P6.13: the chapter's example, and others that were worked out by hand.
func TestBare(t *testing.T) {
	other := exampleReading()
	other.Bare = 300
	// Its part is from a hundredth of Bare to two of them, both rounded down.
	steps := stem.Tube{Glass: stillGlass(), K: to(1, 2), Term: 2}
	above := stem.Reading{Shown: 1000}
	for _, x := range []struct {
		name string
		t    stem.Tube
		r    stem.Reading
		most int
		want int
		e    api.Errno
	}{
		{"the example", example(), exampleReading(), 22, 114, api.OK},
		{"whatever its own Bare is", example(), other, 22, 114, api.OK},
		{"any number", example(), exampleReading(), math.MaxInt, 300, api.OK},
		{"any number, without a part", still(0, 0, 0), exampleReading(), 4, 300, api.OK},
		{"too sure", example(), exampleReading(), 16, 0, api.ErrNone},
		// The part of 7 degrees is 1.8 to 2.1, but that of 16 is 4.1 to 4.9.
		{"as sure as without a part", example(), exampleReading(), 17, 16, api.OK},
		{"0 at most", steps, above, 0, 49, api.OK},
		// The part of any degrees but none is below 0, or not.
		{"no degrees", steps, stem.Reading{Air: to(-1, 1)}, 0, 0, api.OK},
		{"1 at most", steps, above, 1, 149, api.OK},
		{"2 at most", steps, above, 2, 249, api.OK},
	} {
		got, e := stem.Bare(x.t, exampleHistory(), nil, x.r, x.most)
		if got != x.want || e != x.e {
			t.Errorf("%s: %d, %v, not %d, %v", x.name, got, e, x.want, x.e)
		}
	}
	none := shown(0, 0, 1)
	none.Bare = 301
	if _, e := stem.Bare(still(0, 0, 0), days(1), nil, none, 2); e != api.ErrRange {
		t.Errorf("its own Bare has to be as described: %v", e)
	}
}

// P6.4: the chapter's example, and others that were worked out by hand.
func TestIceOf(t *testing.T) {
	lagging := func(degrees, e, most int) stem.Reading {
		return stem.Reading{Day: 15, Shown: degrees, Error: e, Rate: to(0, most)}
	}
	for _, x := range []struct {
		name string
		t    stem.Tube
		r    stem.Reading
		want glass.Ice
		e    api.Errno
	}{
		{"the example", example(), shown(2, -3, 1), ice(2, -3, 1), api.OK},
		{"all parts", example(), exampleReading(), ice(2, 2030, 9), api.ErrBound},
		{"an even number of zeros: the least Zero", still(0, 1, 0), lagging(-10, 0, 3), ice(15, -9, 2), api.OK},
		{"one zero more", still(0, 1, 0), lagging(-10, 0, 4), ice(15, -8, 2), api.OK},
		{"two zeros", still(0, 1, 0), lagging(7, 0, 1), ice(15, 7, 1), api.OK},
		// 17 times 100 times (0 less 300) is -5.1, 15 times 100 times (0 less 200) is -3.
		{"a stem", example(), stem.Reading{Bare: 100, Air: to(20, 30)}, ice(0, -5, 2), api.OK},
		{"the deep", example(), stem.Reading{Deep: 7}, ice(0, -4, 4), api.OK},
		{"the greatest Error", still(0, 1, 0), lagging(0, 18, 4), ice(15, 2, 20), api.OK},
		{"just not too much", still(0, 1, 0), lagging(0, 18, 3), ice(15, 1, 20), api.OK},
		{"one zero too much", still(0, 1, 0), lagging(0, 18, 5), ice(0, 0, 0), api.ErrBound},
		{"the greatest Zero", still(0, 0, 0), shown(0, 2000, 3), ice(0, 2000, 3), api.OK},
		{"one beyond it has the ice, too", still(0, 0, 0), shown(0, 2001, 3), ice(0, 2000, 4), api.OK},
		{"as far as the Error goes", still(0, 0, 0), shown(0, 2017, 3), ice(0, 2000, 20), api.OK},
		{"farther", still(0, 0, 0), shown(0, 2018, 3), ice(0, 0, 0), api.ErrBound},
		{"the least Zero", still(0, 0, 0), shown(0, -2000, 3), ice(0, -2000, 3), api.OK},
		{"one below it", still(0, 0, 0), shown(0, -2001, 3), ice(0, -2000, 4), api.OK},
		{"as far as the Error goes below it", still(0, 0, 0), shown(0, -2017, 3), ice(0, -2000, 20), api.OK},
		{"farther below it", still(0, 0, 0), shown(0, -2018, 3), ice(0, 0, 0), api.ErrBound},
		{"no other Zero below the least one", still(0, 1, 0), stem.Reading{Shown: -2000, Rate: to(-1, 0)}, ice(0, -2000, 1), api.OK},
		{"as far as can be", still(0, 0, 0), shown(0, 5000, 0), ice(0, 0, 0), api.ErrBound},
	} {
		if x.e != api.OK {
			x.want = ice(0, 0, 0)
		}
		if got, e := stem.IceOf(x.t, x.r); got != x.want || e != x.e {
			t.Errorf("%s: %v, %v, not %v, %v", x.name, got, e, x.want, x.e)
		}
	}
	broken := shown(2, -3, 1)
	broken.Broken = true
	if got, e := stem.IceOf(example(), broken); got != ice(0, 0, 0) || e != api.ErrState {
		t.Errorf("broken: %v, %v", got, e)
	}
}

// P6.5: the chapter's example, and others that were worked out by hand.
func TestSame(t *testing.T) {
	getting := func(degrees int, rate glass.Range) stem.Reading {
		return stem.Reading{Shown: degrees, Rate: rate}
	}
	deep := func(degrees, deep int) stem.Reading { return stem.Reading{Shown: degrees, Deep: deep} }
	out := func(degrees, bare int) stem.Reading { return stem.Reading{Shown: degrees, Bare: bare} }
	lags := stem.Tube{Glass: stillGlass(), Lag: to(2, 3)}
	squeezed := stem.Tube{Glass: stillGlass(), Squeeze: to(0, 3)}
	stems := stem.Tube{Glass: stillGlass(), K: to(0, 20)}
	for _, x := range []struct {
		name string
		t    stem.Tube
		l    []stem.Reading
		want glass.Range
		e    api.Errno
	}{
		{"the example", example(), readings(exampleReading(), shown(2, 2025, 2)), to(2023, 2032), api.OK},
		{"it alone", example(), readings(exampleReading()), to(2021, 2043), api.OK},
		{"the other one alone", example(), readings(shown(2, 2025, 2)), to(2023, 2032), api.OK},
		{"twice the same", example(), readings(exampleReading(), exampleReading()), to(2021, 2043), api.OK},
		// Their zero is the same, so they are no farther apart than by their errors.
		{"as far apart as can be", example(), readings(shown(2, 2000, 2), shown(2, 2004, 2)), to(2002, 2007), api.OK},
		{"farther", example(), readings(shown(2, 2000, 2), shown(2, 2005, 2)), to(0, 0), api.ErrFail},
		{"five of them", still(0, 0, 0), readings(shown(0, 10, 3), shown(0, 11, 3), shown(0, 12, 3), shown(0, 13, 2), shown(0, 10, 2)), to(11, 12), api.OK},
		{"the last one does not fit", still(0, 0, 0), readings(shown(0, 10, 3), shown(0, 11, 3), shown(0, 12, 3), shown(0, 13, 2), shown(0, 18, 2)), to(0, 0), api.ErrFail},
		// The lag is 2 or 3 for both: 100 can be 100, 102, 104, 106 or 100, 103, 106, 109.
		{"between two rates", lags, readings(getting(100, to(0, 3)), getting(101, to(0, 0))), to(0, 0), api.ErrFail},
		{"at one of them, by one lag", lags, readings(getting(100, to(0, 3)), getting(103, to(0, 0))), to(103, 103), api.OK},
		{"at one of them, by both lags", lags, readings(getting(100, to(0, 3)), getting(106, to(0, 0))), to(106, 106), api.OK},
		{"at none of them", lags, readings(getting(100, to(0, 3)), getting(105, to(0, 0))), to(0, 0), api.ErrFail},
		{"rates that meet, by both lags", lags, readings(getting(100, to(0, 3)), getting(112, to(-4, 0))), to(100, 109), api.OK},
		{"rates that meet, by one lag", lags, readings(getting(100, to(0, 3)), getting(110, to(-4, 0))), to(102, 106), api.OK},
		{"rates that do not meet", lags, readings(getting(100, to(0, 3)), getting(111, to(-4, 0))), to(0, 0), api.ErrFail},
		// The first one can be 102 or 103, the second one 101 or 102.
		{"the lag is the same", lags, readings(getting(100, to(1, 1)), getting(99, to(1, 1))), to(0, 0), api.ErrFail},
		{"a bath that gets colder", lags, readings(getting(100, to(-3, -1)), getting(91, to(0, 1))), to(91, 94), api.OK},
		// By a squeeze of 1 both are 98; by others they are apart.
		{"the squeeze is the same", squeezed, readings(deep(100, 2), deep(99, 1)), to(98, 98), api.OK},
		{"no squeeze fits", squeezed, readings(deep(100, 2), deep(99, 2)), to(0, 0), api.ErrFail},
		{"a squeeze that is too much", squeezed, readings(deep(100, 2), deep(96, 1)), to(0, 0), api.ErrFail},
		{"the greatest squeeze", squeezed, readings(deep(100, 2), deep(97, 1)), to(94, 94), api.OK},
		// By a K of 10 they are 1000 and 10, 991 and 19 (19.8), by 9 and 11 1 apart.
		{"the K is the same", stems, readings(out(1000, 100), out(991, 200)), to(1010, 1010), api.OK},
		{"no K fits", stems, readings(out(1000, 100), out(970, 200)), to(0, 0), api.ErrFail},
	} {
		history := exampleHistory()
		got, e := stem.Same(x.t, history, nil, x.l)
		if got != x.want || e != x.e {
			t.Errorf("%s: %v, %v, not %v, %v", x.name, got, e, x.want, x.e)
		}
		other := slices.Clone(x.l)
		slices.Reverse(other)
		if turned, f := stem.Same(x.t, history, nil, other); turned != got || f != e {
			t.Errorf("%s, from the last one on: %v, %v, not %v, %v", x.name, turned, f, got, e)
		}
	}
}

// P6.5: how many readings, and of which day.
func TestReadingsOfOneBath(t *testing.T) {
	five := slices.Repeat(readings(shown(1, 7, 0)), 5)
	of := func(day int) []stem.Reading { return append(slices.Clone(five[:2]), shown(day, 7, 0)) }
	for _, x := range []struct {
		name string
		l    []stem.Reading
		want api.Errno
	}{
		{"as many as there may be", five, api.OK},
		{"one more", append(five, five[0]), api.ErrLimit},
		{"one more, which is wrong", append(five, shown(-1, 5001, -1)), api.ErrLimit},
		{"none", nil, api.ErrRange},
		{"none, in a list", readings(), api.ErrRange},
		{"one of another day", of(0), api.ErrRange},
		{"one of a later day", of(2), api.ErrRange},
		{"one of no day", of(3), api.ErrRange},
		{"all of no day", slices.Repeat(readings(shown(3, 7, 0)), 2), api.ErrRange},
		{"one that is wrong", append(slices.Clone(five[:2]), shown(1, 7, 21)), api.ErrRange},
	} {
		got, e := stem.Same(still(0, 0, 0), days(3), nil, x.l)
		if e != x.want || e == api.OK && got != to(7, 7) || e != api.OK && got != to(0, 0) {
			t.Errorf("%s: %v, %v, not %v", x.name, got, e, x.want)
		}
	}
}

// P1: all calls come to an end soon, however large their arguments are.
func TestLargest(t *testing.T) {
	tube := stem.Tube{K: to(0, 20), Lag: to(0, 5), Squeeze: to(0, 3), Term: 16}
	tube.Glass = glass.Glass{
		Base:   1000,
		Bands:  []glass.Band{{From: 0, Creep: to(0, 3)}, {From: 1, Creep: to(0, 3)}, {From: 2, Creep: to(0, 3)}},
		Depths: []glass.Depth{{From: 1, Sink: 10}, {From: 100, Sink: 20}, {From: 200, Sink: 29}, {From: 500, Sink: 30}},
		Back:   to(0, 5),
	}
	history := slices.Repeat([]glass.Range{to(0, 500)}, 16)
	r := stem.Reading{Day: 15, Shown: 5000, Error: 20, Bare: 300, Air: to(-100, 100), Rate: to(-20, 20), Deep: 20}
	start := time.Now()
	// 20 for the error, 30 for the sink and 48 for the creep, 360, 100 for the lag, 60 for the pressure.
	if got, e := stem.Correct(tube, history, nil, r); got != to(5000-20-1048-100-60, 5000+20-970+360+100) || e != api.OK {
		t.Errorf("Correct: %v, %v", got, e)
	}
	if got, e := stem.Bare(tube, history, nil, r, 0); got != 0 || e != api.ErrNone {
		t.Errorf("Bare: %v, %v", got, e)
	}
	if got, e := stem.Same(tube, history, nil, slices.Repeat(readings(r), 5)); got != to(5000-20-1048-100-60, 5000+20-970+360+100) || e != api.OK {
		t.Errorf("Same: %v, %v", got, e)
	}
	if took := time.Since(start); took > 20*time.Second {
		t.Errorf("it took %v", took)
	}
}
