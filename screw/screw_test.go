package screw_test

import (
	"math"
	"slices"
	"testing"

	"meniscus/api"
	"meniscus/screw"
)

func to(lo, hi int) screw.Range { return screw.Range{Lo: lo, Hi: hi} }

func zone(from int, wear screw.Range) screw.Zone { return screw.Zone{From: from, Wear: wear} }

func zones(list ...screw.Zone) []screw.Zone { return list }

func ranges(list ...screw.Range) []screw.Range { return list }

func numbers(list ...int) []int { return list }

// example, and the scales of even and uneven, are the chapter's.
func example() screw.Screw {
	return screw.Screw{Step: 10, Phases: ranges(to(-2, -1), to(0, 1), to(1, 2)), Zones: zones(zone(0, to(0, 0)), zone(6, to(0, 1))), Ticks: 12}
}

func exampleTruth() screw.Truth {
	return screw.Truth{Phases: numbers(-1, 0, 2), Wears: numbers(0, 1)}
}

func even() []int { return numbers(20, 40, 60) }

func uneven() []int { return numbers(20, 40, 70) }

// exact is a screw that is never wrong.
func exact(step, ticks int) screw.Screw {
	return screw.Screw{Step: step, Phases: ranges(to(0, 0)), Zones: zones(zone(0, to(0, 0))), Ticks: ticks}
}

// P4.1
func TestCheckScrew(t *testing.T) {
	same := func(many int, r screw.Range) []screw.Range { return slices.Repeat(ranges(r), many) }
	four := zones(zone(0, to(0, 0)), zone(1, to(0, 0)), zone(2, to(0, 0)), zone(3, to(0, 0)))
	for _, x := range []struct {
		name   string
		change func(s *screw.Screw)
		want   api.Errno
	}{
		{"the example", func(s *screw.Screw) {}, api.OK},
		{"the greatest Step", func(s *screw.Screw) { s.Step = 50 }, api.OK},
		{"one beyond it", func(s *screw.Screw) { s.Step = 51 }, api.ErrArg},
		{"the least Step", func(s *screw.Screw) { *s = exact(1, 1) }, api.OK},
		{"no Step", func(s *screw.Screw) { *s = exact(0, 1) }, api.ErrArg},
		{"no Step, but phases that go on", func(s *screw.Screw) { s.Step, s.Phases = 0, ranges(to(5, 5)) }, api.ErrArg},
		{"a Step below 0", func(s *screw.Screw) { s.Step, s.Phases = -1, ranges(to(5, 5)) }, api.ErrArg},
		{"no phase", func(s *screw.Screw) { s.Phases = nil }, api.ErrArg},
		{"one phase", func(s *screw.Screw) { s.Phases = s.Phases[:1] }, api.OK},
		{"as many phases as there may be", func(s *screw.Screw) { s.Phases = same(8, to(-1, 1)) }, api.OK},
		{"one phase more", func(s *screw.Screw) { s.Phases = same(9, to(-1, 1)) }, api.ErrLimit},
		{"the greatest phase", func(s *screw.Screw) { s.Phases[2] = to(0, 20) }, api.OK},
		{"one beyond it", func(s *screw.Screw) { s.Phases[2] = to(0, 21) }, api.ErrArg},
		{"the least phase", func(s *screw.Screw) { s.Step, s.Phases[2] = 50, to(-20, -20) }, api.OK},
		{"one below it", func(s *screw.Screw) { s.Step, s.Phases[2] = 50, to(-21, -20) }, api.ErrArg},
		{"a phase that is no range", func(s *screw.Screw) { s.Phases[1] = to(1, 0) }, api.ErrArg},
		{"no zone", func(s *screw.Screw) { s.Zones = nil }, api.ErrArg},
		{"one zone", func(s *screw.Screw) { s.Zones = s.Zones[:1] }, api.OK},
		{"as many zones as there may be", func(s *screw.Screw) { s.Zones = four[:3] }, api.OK},
		{"one zone more", func(s *screw.Screw) { s.Zones = four }, api.ErrLimit},
		{"a first zone from 1", func(s *screw.Screw) { s.Zones = four[1:3] }, api.ErrArg},
		{"a first zone from -1", func(s *screw.Screw) { s.Zones[0].From = -1 }, api.ErrArg},
		{"a zone from the last tick there may be", func(s *screw.Screw) { s.Zones[1].From = 60 }, api.OK},
		{"one from behind it", func(s *screw.Screw) { s.Zones[1].From = 61 }, api.ErrArg},
		{"two zones from one tick", func(s *screw.Screw) { s.Zones[1].From = 0 }, api.ErrArg},
		{"zones that fall", func(s *screw.Screw) { s.Zones = zones(zone(0, to(0, 0)), zone(5, to(0, 0)), zone(4, to(0, 0))) }, api.ErrArg},
		{"two later zones from one tick", func(s *screw.Screw) { s.Zones = zones(zone(0, to(0, 0)), zone(5, to(0, 0)), zone(5, to(0, 0))) }, api.ErrArg},
		{"the greatest Wear", func(s *screw.Screw) { s.Zones[1].Wear = to(20, 20) }, api.OK},
		{"one beyond it", func(s *screw.Screw) { s.Zones[1].Wear = to(20, 21) }, api.ErrArg},
		{"the least Wear", func(s *screw.Screw) { s.Step, s.Zones[0].Wear = 50, to(-20, 20) }, api.OK},
		{"one below it", func(s *screw.Screw) { s.Step, s.Zones[0].Wear = 50, to(-21, 20) }, api.ErrArg},
		{"a Wear that is no range", func(s *screw.Screw) { s.Zones[0].Wear = to(1, 0) }, api.ErrArg},
		{"one tick", func(s *screw.Screw) { s.Ticks = 1 }, api.OK},
		{"no tick", func(s *screw.Screw) { s.Ticks = 0 }, api.ErrArg},
		{"ticks below 0", func(s *screw.Screw) { s.Ticks = -1 }, api.ErrArg},
		{"as many ticks as there may be", func(s *screw.Screw) { s.Ticks = 60 }, api.OK},
		{"one tick more", func(s *screw.Screw) { s.Ticks = 61 }, api.ErrArg},
		{"it goes on by 1, at the least", func(s *screw.Screw) { s.Step, s.Zones[1].Wear = 6, to(-3, 0) }, api.OK},
		{"it stands still", func(s *screw.Screw) { s.Step, s.Zones[1].Wear = 5, to(-3, 0) }, api.ErrArg},
		{"it stands still at a later phase", func(s *screw.Screw) { s.Phases[2] = to(-10, 20) }, api.ErrArg},
		{"it stands still in the first zone", func(s *screw.Screw) { s.Zones[0].Wear = to(-8, 0) }, api.ErrArg},
		{"it would stand still in a zone behind all ticks", func(s *screw.Screw) { s.Zones[1] = zone(13, to(-8, 0)) }, api.ErrArg},
		{"it would stand still at a phase behind all ticks", func(s *screw.Screw) { s.Ticks, s.Phases[2] = 1, to(-10, 20) }, api.ErrArg},
		{"it goes back", func(s *screw.Screw) { s.Step = 1 }, api.ErrArg},
		{"far numbers", func(s *screw.Screw) {
			s.Step, s.Phases[0], s.Zones[0].Wear = math.MinInt, to(math.MinInt, math.MaxInt), to(math.MinInt, math.MaxInt)
		}, api.ErrArg},
		{"nothing", func(s *screw.Screw) { *s = screw.Screw{} }, api.ErrArg},
		{"a phase more, and all else is wrong", func(s *screw.Screw) { *s = screw.Screw{Phases: same(9, to(1, 0))} }, api.ErrLimit},
		{"a zone more, and all else is wrong", func(s *screw.Screw) { *s = screw.Screw{Zones: four} }, api.ErrLimit},
	} {
		s := example()
		x.change(&s)
		if e := screw.CheckScrew(s); e != x.want {
			t.Errorf("%s: %v, not %v", x.name, e, x.want)
		}
	}
}

// P4.1: the chapter's example, and others that were worked out by hand.
func TestPlace(t *testing.T) {
	three := screw.Screw{Step: 3, Phases: ranges(to(0, 0), to(1, 2)), Zones: zones(zone(0, to(0, 1)), zone(1, to(2, 3)), zone(4, to(-2, 0))), Ticks: 7}
	change := func(change func(x *screw.Truth)) screw.Truth {
		x := exampleTruth()
		change(&x)
		return x
	}
	for _, x := range []struct {
		name string
		s    screw.Screw
		tick int
		t    screw.Truth
		want int
		e    api.Errno
	}{
		{"the example", example(), 7, exampleTruth(), 72, api.OK},
		{"the tick 0", example(), 0, exampleTruth(), 0, api.OK},
		{"the tick 1", example(), 1, exampleTruth(), 9, api.OK},
		{"a turn", example(), 3, exampleTruth(), 31, api.OK},
		{"the tick at which a zone begins", example(), 6, exampleTruth(), 62, api.OK},
		{"the last tick", example(), 12, exampleTruth(), 130, api.OK},
		{"three zones", three, 7, screw.Truth{Phases: numbers(0, 2), Wears: numbers(1, 3, -2)}, 3 + 5 + 3 + 5 + 3 + 5 + 3 + 1 + 3*3 - 3*2, api.OK},
		{"three zones, within the second one", three, 3, screw.Truth{Phases: numbers(0, 1), Wears: numbers(0, 2, 0)}, 3 + 4 + 3 + 2*2, api.OK},
		{"one beyond the last tick", example(), 13, exampleTruth(), 0, api.ErrRange},
		{"one below the first tick", example(), -1, exampleTruth(), 0, api.ErrRange},
		{"the least phase and the greatest wear", example(), 7, screw.Truth{Phases: numbers(-2, 0, 1), Wears: numbers(0, 1)}, 67, api.OK},
		{"a phase beyond its range", example(), 7, change(func(x *screw.Truth) { x.Phases[2] = 3 }), 0, api.ErrRange},
		{"a phase below its range", example(), 7, change(func(x *screw.Truth) { x.Phases[0] = -3 }), 0, api.ErrRange},
		{"a phase that is not needed is none", example(), 1, change(func(x *screw.Truth) { x.Phases[2] = 0 }), 0, api.ErrRange},
		{"a wear beyond its range", example(), 7, change(func(x *screw.Truth) { x.Wears[1] = 2 }), 0, api.ErrRange},
		{"a wear below its range", example(), 7, change(func(x *screw.Truth) { x.Wears[0] = -1 }), 0, api.ErrRange},
		{"a wear that is not needed is none", example(), 1, change(func(x *screw.Truth) { x.Wears[1] = -1 }), 0, api.ErrRange},
		{"a phase is missing", example(), 7, change(func(x *screw.Truth) { x.Phases = x.Phases[:2] }), 0, api.ErrRange},
		{"a phase too many", example(), 7, change(func(x *screw.Truth) { x.Phases = append(x.Phases, 0) }), 0, api.ErrRange},
		{"a wear is missing", example(), 7, change(func(x *screw.Truth) { x.Wears = x.Wears[:1] }), 0, api.ErrRange},
		{"a wear too many", example(), 7, change(func(x *screw.Truth) { x.Wears = append(x.Wears, 0) }), 0, api.ErrRange},
		{"no truth", example(), 7, screw.Truth{}, 0, api.ErrRange},
	} {
		if got, e := screw.Place(x.s, x.tick, x.t); got != x.want || e != x.e {
			t.Errorf("%s: %d, %v, not %d, %v", x.name, got, e, x.want, x.e)
		}
	}
}

// P4.2: the chapter's examples, and others that were worked out by hand.
func TestBounds(t *testing.T) {
	most := screw.Screw{Step: 50, Phases: ranges(to(-20, 20)), Zones: zones(zone(0, to(-20, 20))), Ticks: 60}
	for _, x := range []struct {
		name string
		s    screw.Screw
		tick int
		want screw.Range
		e    api.Errno
	}{
		{"2", example(), 2, to(18, 20), api.OK},
		{"4", example(), 4, to(37, 41), api.OK},
		{"7", example(), 7, to(66, 74), api.OK},
		{"the first tick", example(), 0, to(0, 0), api.OK},
		{"ahead of the second zone", example(), 6, to(58, 64), api.OK},
		{"the last tick", example(), 12, to(116, 134), api.OK},
		{"as far as places go", most, 60, to(600, 5400), api.OK},
		{"a screw that is never wrong", exact(7, 60), 60, to(420, 420), api.OK},
		{"one beyond the last tick", example(), 13, to(0, 0), api.ErrRange},
		{"one below the first one", example(), -1, to(0, 0), api.ErrRange},
		{"far beyond", example(), math.MaxInt, to(0, 0), api.ErrRange},
		{"no screw", exact(0, 1), 0, to(0, 0), api.ErrArg},
	} {
		if got, e := screw.Bounds(x.s, x.tick); got != x.want || e != x.e {
			t.Errorf("%s: %v, %v, not %v, %v", x.name, got, e, x.want, x.e)
		}
	}
}

// P4.2: the chapter's example, and others that were worked out by hand.
func TestOut(t *testing.T) {
	for _, x := range []struct {
		name           string
		s              screw.Screw
		scale, cutting []int
		want           []screw.Range
		e              api.Errno
	}{
		{"the example", example(), even(), numbers(2, 4, 6), ranges(to(-2, 0), to(-3, 1), to(-2, 4)), api.OK},
		{"one line", example(), numbers(0), numbers(12), ranges(to(116, 134)), api.OK},
		{"too early, and too late", exact(10, 60), numbers(0, 5000), numbers(1, 60), ranges(to(10, 10), to(-4400, -4400)), api.OK},
		{"a tick is missing", example(), even(), numbers(2, 4), nil, api.ErrRange},
		{"a tick too many", example(), even(), numbers(2, 4, 6, 8), nil, api.ErrRange},
		{"no ticks", example(), even(), nil, nil, api.ErrRange},
		{"a tick comes twice", example(), even(), numbers(2, 4, 4), nil, api.ErrRange},
		{"ticks that fall", example(), even(), numbers(4, 2, 6), nil, api.ErrRange},
		{"the last tick", example(), even(), numbers(0, 1, 12), ranges(to(-20, -20), to(-32, -31), to(56, 74)), api.OK},
		{"one beyond it", example(), even(), numbers(0, 1, 13), nil, api.ErrRange},
		{"one below 0", example(), even(), numbers(-1, 1, 12), nil, api.ErrRange},
	} {
		if got, e := screw.Out(x.s, x.scale, x.cutting); !slices.Equal(got, x.want) || e != x.e {
			t.Errorf("%s: %v, %v, not %v, %v", x.name, got, e, x.want, x.e)
		}
	}
}

// What is a scale, and what is none.
func TestScales(t *testing.T) {
	ten := numbers(0, 1, 2, 3, 4, 5, 6, 7, 8, 5000)
	for _, x := range []struct {
		name  string
		scale []int
		want  api.Errno
	}{
		{"as many lines as there may be, the first and the last place", ten, api.OK},
		{"a line more", numbers(0, 1, 2, 3, 4, 5, 6, 7, 8, 9, 10), api.ErrLimit},
		{"a line more, and nothing right", slices.Repeat(numbers(-1), 11), api.ErrLimit},
		{"one line", numbers(7), api.OK},
		{"no line", nil, api.ErrRange},
		{"one beyond the last place", numbers(7, 5001), api.ErrRange},
		{"one below the first one", numbers(-1, 7), api.ErrRange},
		{"a place comes twice", numbers(7, 7), api.ErrRange},
		{"places that fall", numbers(7, 8, 6), api.ErrRange},
		{"far places", numbers(math.MinInt, math.MaxInt), api.ErrRange},
	} {
		if _, e := screw.Printed(example(), x.scale); e != x.want {
			t.Errorf("%s: %v, not %v", x.name, e, x.want)
		}
	}
}

// P4.3
func TestWrong(t *testing.T) {
	for _, x := range []struct {
		name           string
		scale, cutting []int
		bound, want    int
		e              api.Errno
	}{
		{"all keep 4", even(), numbers(2, 4, 6), 4, 0, api.ErrNone},
		{"the last one can lie too late", even(), numbers(2, 4, 6), 3, 2, api.OK},
		{"the second one can lie too early", even(), numbers(2, 4, 6), 2, 1, api.OK},
		{"the first one, too", even(), numbers(2, 4, 6), 1, 0, api.OK},
		{"nothing", even(), numbers(2, 4, 6), 0, 0, api.OK},
		{"a line that lies at its place keeps even that", numbers(0), numbers(0), 0, 0, api.ErrNone},
		{"the greatest bound", even(), numbers(0, 1, 12), 5000, 0, api.ErrNone},
		{"one beyond it", even(), numbers(2, 4, 6), 5001, 0, api.ErrRange},
		{"one below 0", even(), numbers(2, 4, 6), -1, 0, api.ErrRange},
		{"no cutting", even(), numbers(2, 4), 4, 0, api.ErrRange},
	} {
		if got, e := screw.Wrong(example(), x.scale, x.cutting, x.bound); got != x.want || e != x.e {
			t.Errorf("%s: %d, %v, not %d, %v", x.name, got, e, x.want, x.e)
		}
	}
}

// P4.3: the chapter's examples, and others that were worked out by hand.
func TestRight(t *testing.T) {
	for _, x := range []struct {
		name         string
		s            screw.Screw
		place, bound int
		want         []int
		e            api.Errno
	}{
		{"40 with 3", example(), 40, 3, numbers(4), api.OK},
		{"40 with 2", example(), 40, 2, nil, api.ErrNone},
		{"40 with 15", example(), 40, 15, numbers(3, 4, 5), api.OK},
		{"the first tick", example(), 0, 0, numbers(0), api.OK},
		{"the last tick", example(), 125, 9, numbers(12), api.OK},
		{"beyond the last tick", example(), 144, 28, numbers(12), api.OK},
		{"and with less", example(), 144, 27, nil, api.ErrNone},
		{"the greatest place with the greatest bound", exact(1, 2), 5000, 5000, numbers(0, 1, 2), api.OK},
		{"and with one less", exact(1, 2), 5000, 4999, numbers(1, 2), api.OK},
		{"between two ticks", exact(10, 60), 305, 5, numbers(30, 31), api.OK},
		{"a place beyond the greatest one", example(), 5001, 5000, nil, api.ErrRange},
		{"a place below 0", example(), -1, 5000, nil, api.ErrRange},
		{"a bound beyond the greatest one", example(), 40, 5001, nil, api.ErrRange},
		{"a bound below 0", example(), 40, -1, nil, api.ErrRange},
		{"far numbers", example(), math.MaxInt, math.MinInt, nil, api.ErrRange},
	} {
		if got, e := screw.Right(x.s, x.place, x.bound); !slices.Equal(got, x.want) || e != x.e {
			t.Errorf("%s: %v, %v, not %v, %v", x.name, got, e, x.want, x.e)
		}
	}
}

// P4.4: the chapter's examples, and others that were worked out by hand.
func TestCut(t *testing.T) {
	ten := numbers(0, 1, 2, 3, 4, 5, 6, 7, 8, 9)
	for _, x := range []struct {
		name     string
		s        screw.Screw
		scale    []int
		bound    int
		want     []int
		settings int
		e        api.Errno
	}{
		{"the first example", example(), even(), 5, numbers(2, 4, 6), 1, api.OK},
		{"the second example", example(), uneven(), 5, numbers(2, 4, 7), 2, api.OK},
		{"one line needs no setting", example(), numbers(40), 15, numbers(3), 0, api.OK},
		{"two lines need one", example(), numbers(40, 41), 15, numbers(3, 4), 1, api.OK},
		{"two lines with the same right tick", example(), numbers(40, 41), 4, nil, 0, api.ErrFail},
		{"two lines behind each other's ticks", exact(10, 12), numbers(14, 15), 4, nil, 0, api.ErrBound},
		{"the first line has no right tick", example(), numbers(13, 40), 3, nil, 0, api.ErrBound},
		{"the last line has none, and the others cannot be cut", example(), numbers(40, 41, 73), 4, nil, 0, api.ErrBound},
		{"more lines than ticks, each of which has one", exact(10, 2), numbers(0, 9, 20, 21), 5, nil, 0, api.ErrFail},
		{"as many lines as ticks, and one", exact(1, 2), numbers(0, 1, 2), 0, numbers(0, 1, 2), 1, api.OK},
		{"the list is lesser, but needs a setting more", exact(10, 12), numbers(20, 40, 55), 5, numbers(2, 4, 6), 1, api.OK},
		{"of two with as many settings the lesser one", exact(10, 12), numbers(20, 35, 50), 5, numbers(2, 3, 5), 2, api.OK},
		{"the first tick is not the least right one", exact(10, 12), numbers(15, 30, 40), 5, numbers(2, 3, 4), 1, api.OK},
		{"a later tick is not the least right one", exact(10, 12), numbers(0, 15, 40, 60), 5, numbers(0, 2, 4, 6), 1, api.OK},
		{"a setting that comes again is one more", exact(10, 12), numbers(0, 10, 30, 40), 0, numbers(0, 1, 3, 4), 3, api.OK},
		{"the settings differ from line to line", exact(10, 12), numbers(0, 10, 30, 60), 0, numbers(0, 1, 3, 6), 3, api.OK},
		{"all ticks are right", exact(10, 60), ten, 5000, ten, 1, api.OK},
		{"no more ticks than lines", exact(10, 9), ten, 5000, ten, 1, api.OK},
		{"a bound of nothing", exact(10, 12), numbers(0, 10, 20), 0, numbers(0, 1, 2), 1, api.OK},
		{"one beyond the greatest bound", example(), even(), 5001, nil, 0, api.ErrRange},
		{"one below 0", example(), even(), -1, nil, 0, api.ErrRange},
	} {
		got, settings, e := screw.Cut(x.s, x.scale, x.bound)
		if !slices.Equal(got, x.want) || settings != x.settings || e != x.e {
			t.Errorf("%s: %v, %d, %v, not %v, %d, %v", x.name, got, settings, e, x.want, x.settings, x.e)
		}
	}
}

// P4.5: the chapter's examples, and others that were worked out by hand.
func TestPrinted(t *testing.T) {
	late := screw.Screw{Step: 50, Phases: ranges(to(20, 20)), Zones: zones(zone(0, to(20, 20))), Ticks: 9}
	for _, x := range []struct {
		name  string
		s     screw.Screw
		scale []int
		want  int
		e     api.Errno
	}{
		{"the first example", example(), even(), 4, api.OK},
		{"the second example", example(), uneven(), 4, api.OK},
		{"nothing", exact(10, 12), numbers(0, 10, 120), 0, api.OK},
		{"a place beyond all ticks", exact(10, 12), numbers(5000), 4880, api.OK},
		{"as far beyond as can be", exact(1, 1), numbers(5000), 4999, api.OK},
		{"two places beyond all ticks", exact(1, 1), numbers(4999, 5000), 4999, api.OK},
		{"as far ahead as can be", late, numbers(0, 1, 2, 3, 4, 5, 6, 7, 8, 9), 801, api.OK},
		{"as many lines as ticks, and one", exact(10, 2), numbers(0, 1, 2), 18, api.OK},
		{"one line more", exact(10, 2), numbers(0, 1, 2, 3), 0, api.ErrFail},
		{"the lines crowd the ticks", exact(10, 12), numbers(20, 21, 22), 10, api.OK},
	} {
		if got, e := screw.Printed(x.s, x.scale); got != x.want || e != x.e {
			t.Errorf("%s: %d, %v, not %d, %v", x.name, got, e, x.want, x.e)
		}
	}
}

// P4.4
func TestProveCutting(t *testing.T) {
	eleven := numbers(0, 1, 2, 3, 4, 5, 6, 7, 8, 9, 10)
	for _, x := range []struct {
		name            string
		s               screw.Screw
		scale, cutting  []int
		bound, settings int
		want            bool
	}{
		{"the first example", example(), even(), numbers(2, 4, 6), 5, 1, true},
		{"by more settings", example(), even(), numbers(2, 4, 6), 5, math.MaxInt, true},
		{"by fewer", example(), even(), numbers(2, 4, 6), 5, 0, false},
		{"by fewer than none", example(), even(), numbers(2, 4, 6), 5, -1, false},
		{"the least bound", example(), even(), numbers(2, 4, 6), 4, 1, true},
		{"a lesser one", example(), even(), numbers(2, 4, 6), 3, 1, false},
		{"a bound below 0", exact(10, 12), numbers(0), numbers(0), -1, 0, false},
		{"the least bound of all", exact(10, 12), numbers(0), numbers(0), math.MinInt, 0, false},
		{"a bound of nothing", exact(10, 12), numbers(0), numbers(0), 0, 0, true},
		{"the greatest bound", example(), even(), numbers(2, 4, 6), 5000, 1, true},
		{"one beyond it", example(), even(), numbers(2, 4, 6), 5001, 1, false},
		{"far beyond it", example(), even(), numbers(2, 4, 6), math.MaxInt, math.MaxInt, false},
		{"a line at its place, and the greatest bound", exact(1, 1), numbers(0), numbers(0), 5000, 0, true},
		{"and one beyond it", exact(1, 1), numbers(0), numbers(0), 5001, 0, false},
		{"the second example", example(), uneven(), numbers(2, 4, 7), 5, 2, true},
		{"it has two settings", example(), uneven(), numbers(2, 4, 7), 5, 1, false},
		{"a cutting that is not the best one", exact(10, 12), numbers(20, 35, 50), numbers(2, 4, 5), 5, 2, true},
		{"a line needs no setting", example(), numbers(40), numbers(5), 15, 0, true},
		{"but not fewer", example(), numbers(40), numbers(5), 15, -1, false},
		{"a setting that comes again", exact(10, 12), numbers(0, 10, 30, 40), numbers(0, 1, 3, 4), 0, 3, true},
		{"is one more", exact(10, 12), numbers(0, 10, 30, 40), numbers(0, 1, 3, 4), 0, 2, false},
		{"no screw", exact(0, 12), numbers(0), numbers(0), 5, 1, false},
		{"a screw with a phase too many", screw.Screw{Step: 10, Phases: make([]screw.Range, 9), Zones: make([]screw.Zone, 1), Ticks: 12}, numbers(0), numbers(0), 5, 1, false},
		{"no scale", example(), nil, nil, 5, 1, false},
		{"a scale that does not rise", example(), numbers(20, 20), numbers(2, 3), 50, 1, false},
		{"ten lines", exact(1, 12), eleven[:10], eleven[:10], 0, 1, true},
		{"eleven", exact(1, 12), eleven, eleven, 0, 1, false},
		{"a place beyond the greatest one", exact(50, 60), numbers(5001), numbers(60), 5000, 0, false},
		{"a tick is missing", example(), even(), numbers(2, 4), 5, 1, false},
		{"a tick too many", example(), even(), numbers(2, 4, 6, 8), 5, 1, false},
		{"a tick beyond the last one", exact(10, 12), numbers(120, 130), numbers(12, 13), 5, 1, false},
		{"a tick comes twice", exact(10, 12), numbers(20, 21), numbers(2, 2), 5, 1, false},
		{"a tick below 0", exact(10, 12), numbers(0, 10), numbers(-1, 1), 50, 1, false},
	} {
		if got := screw.ProveCutting(x.s, x.scale, x.cutting, x.bound, x.settings); got != x.want {
			t.Errorf("%s: %v", x.name, got)
		}
	}
}
