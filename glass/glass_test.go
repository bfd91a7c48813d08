package glass_test

import (
	"math"
	"slices"
	"testing"

	"meniscus/api"
	"meniscus/glass"
)

func to(lo, hi int) glass.Range { return glass.Range{Lo: lo, Hi: hi} }

func band(from int, creep glass.Range) glass.Band { return glass.Band{From: from, Creep: creep} }

func bands(list ...glass.Band) []glass.Band { return list }

func depths(fromAndSink ...int) []glass.Depth {
	var list []glass.Depth
	for i := 0; i < len(fromAndSink); i += 2 {
		list = append(list, glass.Depth{From: fromAndSink[i], Sink: fromAndSink[i+1]})
	}
	return list
}

func ice(day, zero, e int) glass.Ice { return glass.Ice{Day: day, Zero: zero, Error: e} }

// example, exampleHistory and exampleIces are the chapter's.
func example() glass.Glass {
	return glass.Glass{Bands: bands(band(0, to(1, 2)), band(3, to(0, 1))), Depths: depths(100, 10, 300, 25), Back: to(2, 4)}
}

func exampleHistory() []glass.Range {
	return []glass.Range{to(0, 0), to(150, 150), to(0, 20), to(0, 350)}
}

func exampleTruth() glass.Truth {
	return glass.Truth{Heats: []int{0, 150, 0, 320}, Creeps: []int{1, 2, 2, 0}, Backs: []int{2, 2, 3, 4}}
}

func exampleIces() []glass.Ice { return []glass.Ice{ice(1, -6, 0), ice(3, 4, 0), ice(2, -3, 0)} }

// still neither creeps nor sinks.
func still() glass.Glass { return glass.Glass{Bands: bands(band(0, to(0, 0))), Depths: depths(0, 0)} }

// P2.1
func TestCheckGlass(t *testing.T) {
	four := bands(band(0, to(0, 0)), band(1, to(0, 0)), band(2, to(0, 0)), band(3, to(0, 0)))
	five := depths(0, 0, 1, 0, 2, 0, 3, 0, 4, 0)
	for _, x := range []struct {
		name   string
		change func(g *glass.Glass)
		want   api.Errno
	}{
		{"the example", func(g *glass.Glass) {}, api.OK},
		{"the greatest Base", func(g *glass.Glass) { g.Base = 1000 }, api.OK},
		{"one beyond it", func(g *glass.Glass) { g.Base = 1001 }, api.ErrArg},
		{"the least Base", func(g *glass.Glass) { g.Base = -1000 }, api.OK},
		{"one below it", func(g *glass.Glass) { g.Base = -1001 }, api.ErrArg},
		{"no band", func(g *glass.Glass) { g.Bands = nil }, api.ErrArg},
		{"one band", func(g *glass.Glass) { g.Bands = g.Bands[:1] }, api.OK},
		{"as many bands as there may be", func(g *glass.Glass) { g.Bands = four[:3] }, api.OK},
		{"one band more", func(g *glass.Glass) { g.Bands = four }, api.ErrLimit},
		{"a first band from 1", func(g *glass.Glass) { g.Bands = four[1:3] }, api.ErrArg},
		{"a first band from -1", func(g *glass.Glass) { g.Bands[0].From = -1 }, api.ErrArg},
		{"a band from the last day", func(g *glass.Glass) { g.Bands[1].From = 16 }, api.OK},
		{"one from behind it", func(g *glass.Glass) { g.Bands[1].From = 17 }, api.ErrArg},
		{"two bands from one day", func(g *glass.Glass) { g.Bands[1].From = 0 }, api.ErrArg},
		{"bands that fall", func(g *glass.Glass) {
			g.Bands = bands(band(0, to(0, 0)), band(5, to(0, 0)), band(4, to(0, 0)))
		}, api.ErrArg},
		{"the greatest Creep", func(g *glass.Glass) { g.Bands[1].Creep = to(3, 3) }, api.OK},
		{"one beyond it, later", func(g *glass.Glass) { g.Bands[1].Creep = to(3, 4) }, api.ErrArg},
		{"a Creep below 0", func(g *glass.Glass) { g.Bands[0].Creep = to(-1, 1) }, api.ErrArg},
		{"a Creep that is no range", func(g *glass.Glass) { g.Bands[0].Creep = to(2, 1) }, api.ErrArg},
		{"no depth", func(g *glass.Glass) { g.Depths = nil }, api.ErrArg},
		{"as many depths as there may be", func(g *glass.Glass) { g.Depths = five[:4] }, api.OK},
		{"one depth more", func(g *glass.Glass) { g.Depths = five }, api.ErrLimit},
		{"a depth from the least heat", func(g *glass.Glass) { g.Depths[0].From = 0 }, api.OK},
		{"one below it", func(g *glass.Glass) { g.Depths[0].From = -1 }, api.ErrArg},
		{"a depth from the greatest heat", func(g *glass.Glass) { g.Depths[1].From = 500 }, api.OK},
		{"one beyond it", func(g *glass.Glass) { g.Depths[1].From = 501 }, api.ErrArg},
		{"two depths from one heat", func(g *glass.Glass) { g.Depths[1].From = 100 }, api.ErrArg},
		{"depths whose From falls", func(g *glass.Glass) { g.Depths[1].From = 99 }, api.ErrArg},
		{"the greatest Sink", func(g *glass.Glass) { g.Depths[1].Sink = 30 }, api.OK},
		{"one beyond it", func(g *glass.Glass) { g.Depths[1].Sink = 31 }, api.ErrArg},
		{"the least Sink", func(g *glass.Glass) { g.Depths[0].Sink = 0 }, api.OK},
		{"a Sink below 0", func(g *glass.Glass) { g.Depths[0].Sink = -1 }, api.ErrArg},
		{"two equal Sinks", func(g *glass.Glass) { g.Depths[1].Sink = 10 }, api.OK},
		{"Sinks that fall", func(g *glass.Glass) { g.Depths[1].Sink = 9 }, api.ErrArg},
		{"the greatest Back", func(g *glass.Glass) { g.Back = to(0, 5) }, api.OK},
		{"a Back beyond it", func(g *glass.Glass) { g.Back = to(0, 6) }, api.ErrArg},
		{"a Back below 0", func(g *glass.Glass) { g.Back = to(-1, 5) }, api.ErrArg},
		{"a Back that is no range", func(g *glass.Glass) { g.Back = to(3, 2) }, api.ErrArg},
		{"far numbers", func(g *glass.Glass) {
			g.Back, g.Base = to(math.MinInt, math.MaxInt), math.MinInt
		}, api.ErrArg},
		{"nothing", func(g *glass.Glass) { *g = glass.Glass{} }, api.ErrArg},
		{"a depth more, and all else is wrong", func(g *glass.Glass) { *g = glass.Glass{Base: 1001, Depths: five} }, api.ErrLimit},
		{"a band more, and all else is wrong", func(g *glass.Glass) { *g = glass.Glass{Base: 1001, Bands: four} }, api.ErrLimit},
	} {
		g := example()
		x.change(&g)
		if e := glass.CheckGlass(g); e != x.want {
			t.Errorf("%s: %v, not %v", x.name, e, x.want)
		}
	}
}

// P2.1: the chapter's example, and others that were worked out by hand.
func TestPlay(t *testing.T) {
	days := func(n, hi int) []glass.Range { return slices.Repeat([]glass.Range{to(0, hi)}, n) }
	for _, x := range []struct {
		name    string
		g       glass.Glass
		history []glass.Range
		t       glass.Truth
		want    []int
		e       api.Errno
	}{
		{"the example", example(), exampleHistory(), exampleTruth(), []int{1, -7, -2, -20}, api.OK},
		{"heats on both sides of a depth's From", example(), days(3, 500),
			glass.Truth{Heats: []int{99, 100, 299}, Creeps: []int{1, 1, 1}, Backs: []int{2, 2, 2}}, []int{1, -8, -7}, api.OK},
		{"the last depth goes on", example(), days(1, 500),
			glass.Truth{Heats: []int{500}, Creeps: []int{1}, Backs: []int{4}}, []int{-24}, api.OK},
		{"no more comes back than is left", example(), days(3, 500),
			glass.Truth{Heats: []int{100, 0, 0}, Creeps: []int{1, 1, 1}, Backs: []int{4, 4, 4}}, []int{-9, -4, 1}, api.OK},
		{"all of it has come back", example(), days(4, 500),
			glass.Truth{Heats: []int{100, 0, 0, 0}, Creeps: []int{1, 1, 1, 0}, Backs: []int{4, 4, 4, 4}}, []int{-9, -4, 1, 3}, api.OK},
		{"a day more than a heat's depth is left", example(), days(2, 500),
			glass.Truth{Heats: []int{300, 100}, Creeps: []int{1, 1}, Backs: []int{2, 2}}, []int{-24, -21}, api.OK},
		{"a day on which as much is left as the heat sinks", glass.Glass{Base: 1000, Bands: bands(band(0, to(3, 3))), Depths: depths(0, 1, 10, 4), Back: to(3, 3)}, days(2, 500),
			glass.Truth{Heats: []int{10, 0}, Creeps: []int{3, 3}, Backs: []int{3, 3}}, []int{999, 1005}, api.OK},
		{"a band from the last day on", glass.Glass{Bands: bands(band(0, to(0, 0)), band(1, to(3, 3)), band(16, to(1, 1))), Depths: depths(0, 0)}, days(3, 0),
			glass.Truth{Heats: []int{0, 0, 0}, Creeps: []int{0, 3, 3}, Backs: []int{0, 0, 0}}, []int{0, 3, 6}, api.OK},
		{"a creep of another band", example(), exampleHistory(),
			glass.Truth{Heats: []int{0, 150, 0, 320}, Creeps: []int{1, 2, 2, 2}, Backs: []int{2, 2, 3, 4}}, nil, api.ErrRange},
		{"one that this band has not", example(), exampleHistory(),
			glass.Truth{Heats: []int{0, 150, 0, 320}, Creeps: []int{0, 2, 2, 0}, Backs: []int{2, 2, 3, 4}}, nil, api.ErrRange},
		{"a heat beyond the day's", example(), exampleHistory(),
			glass.Truth{Heats: []int{0, 150, 0, 351}, Creeps: []int{1, 2, 2, 0}, Backs: []int{2, 2, 3, 4}}, nil, api.ErrRange},
		{"a heat below the day's", example(), exampleHistory(),
			glass.Truth{Heats: []int{0, 149, 0, 320}, Creeps: []int{1, 2, 2, 0}, Backs: []int{2, 2, 3, 4}}, nil, api.ErrRange},
		{"more comes back than Back has", example(), exampleHistory(),
			glass.Truth{Heats: []int{0, 150, 0, 320}, Creeps: []int{1, 2, 2, 0}, Backs: []int{2, 2, 5, 4}}, nil, api.ErrRange},
		{"less comes back", example(), exampleHistory(),
			glass.Truth{Heats: []int{0, 150, 0, 320}, Creeps: []int{1, 2, 2, 0}, Backs: []int{1, 2, 3, 4}}, nil, api.ErrRange},
		{"a heat is missing", example(), exampleHistory(),
			glass.Truth{Heats: []int{0, 150, 0}, Creeps: []int{1, 2, 2, 0}, Backs: []int{2, 2, 3, 4}}, nil, api.ErrRange},
		{"a creep is missing", example(), exampleHistory(),
			glass.Truth{Heats: []int{0, 150, 0, 320}, Creeps: []int{1, 2, 2}, Backs: []int{2, 2, 3, 4}}, nil, api.ErrRange},
		{"one more comes back", example(), exampleHistory(),
			glass.Truth{Heats: []int{0, 150, 0, 320}, Creeps: []int{1, 2, 2, 0}, Backs: []int{2, 2, 3, 4, 4}}, nil, api.ErrRange},
		{"no truth", example(), exampleHistory(), glass.Truth{}, nil, api.ErrRange},
	} {
		got, e := glass.Play(x.g, x.history, x.t)
		if e != x.e || !slices.Equal(got, x.want) {
			t.Errorf("%s: %v, %v, not %v", x.name, got, e, x.want)
		}
	}
}

// P2.2: the chapter's examples, and others that were worked out by hand.
func TestZeros(t *testing.T) {
	hot := slices.Repeat([]glass.Range{to(0, 500)}, 2)
	for _, x := range []struct {
		name    string
		g       glass.Glass
		history []glass.Range
		ices    []glass.Ice
		want    []glass.Range
		e       api.Errno
	}{
		{"the example", example(), exampleHistory(), nil, []glass.Range{to(1, 2), to(-8, -6), to(-5, 0), to(-22, 5)}, api.OK},
		{"the example with ice", example(), exampleHistory(), []glass.Ice{ice(3, 4, 1)}, []glass.Range{to(1, 2), to(-8, -6), to(-2, 0), to(3, 5)}, api.OK},
		{"a range with a gap", still(), hot[:1], nil, []glass.Range{to(0, 0)}, api.OK},
		{"zeros that are in the range, but that nothing has", glass.Glass{Bands: bands(band(0, to(0, 0))), Depths: depths(100, 10), Back: to(0, 0)}, hot[:1], []glass.Ice{ice(0, -5, 4)}, nil, api.ErrFail},
		{"ice ahead tells of the days behind it", glass.Glass{Bands: bands(band(0, to(0, 0))), Depths: depths(100, 10), Back: to(1, 1)}, hot, []glass.Ice{ice(0, -10, 0)}, []glass.Range{to(-10, -10), to(-10, -9)}, api.OK},
		{"ice behind tells of the days ahead of it", glass.Glass{Bands: bands(band(0, to(0, 0))), Depths: depths(100, 10), Back: to(1, 1)}, hot, []glass.Ice{ice(1, -9, 0)}, []glass.Range{to(-10, -10), to(-9, -9)}, api.OK},
		{"ices that do not agree", example(), exampleHistory(), exampleIces(), nil, api.ErrFail},
		{"two ices of one day that agree", example(), exampleHistory(), []glass.Ice{ice(1, -9, 2), ice(1, -6, 1)}, []glass.Range{to(1, 2), to(-7, -7), to(-4, -1), to(-21, 4)}, api.OK},
		{"two of one day that do not", example(), exampleHistory(), []glass.Ice{ice(1, -9, 1), ice(1, -6, 1)}, nil, api.ErrFail},
	} {
		got, e := glass.Zeros(x.g, x.history, x.ices)
		if e != x.e || !slices.Equal(got, x.want) {
			t.Errorf("%s: %v, %v, not %v", x.name, got, e, x.want)
		}
	}
}

// P2.2
func TestProveTruth(t *testing.T) {
	nine := slices.Repeat([]glass.Ice{ice(0, 1, 0)}, 9)
	other := exampleTruth()
	other.Heats[1] = 151
	tooDeep := example()
	tooDeep.Depths[1].Sink = 31
	for _, x := range []struct {
		name    string
		g       glass.Glass
		history []glass.Range
		ices    []glass.Ice
		t       glass.Truth
		want    bool
	}{
		{"no ice", example(), exampleHistory(), nil, exampleTruth(), true},
		{"true ices", example(), exampleHistory(), []glass.Ice{ice(3, -20, 0), ice(1, -5, 2), ice(1, -9, 2)}, exampleTruth(), true},
		{"one is too high by 1", example(), exampleHistory(), []glass.Ice{ice(3, -20, 0), ice(1, -4, 2)}, exampleTruth(), false},
		{"one is too low by 1", example(), exampleHistory(), []glass.Ice{ice(3, -20, 0), ice(1, -10, 2)}, exampleTruth(), false},
		{"as many ices as there may be", example(), exampleHistory(), nine[:8], exampleTruth(), true},
		{"one more", example(), exampleHistory(), nine, exampleTruth(), false},
		{"an ice of none of the days", example(), exampleHistory(), []glass.Ice{ice(4, 0, 20)}, exampleTruth(), false},
		{"an ice with too great an Error", example(), exampleHistory(), []glass.Ice{ice(0, 1, 21)}, exampleTruth(), false},
		{"a truth of another history", example(), exampleHistory(), nil, other, false},
		{"one of a longer history", example(), exampleHistory()[:3], nil, exampleTruth(), false},
		{"no history", example(), nil, nil, glass.Truth{}, false},
		{"no glass", glass.Glass{}, exampleHistory(), nil, exampleTruth(), false},
		{"a glass that is not valid", tooDeep, exampleHistory(), nil, exampleTruth(), false},
	} {
		if got := glass.ProveTruth(x.g, x.history, x.ices, x.t); got != x.want {
			t.Errorf("%s: %v", x.name, got)
		}
	}
}

// P2.3: the chapter's examples, and others that were worked out by hand.
func TestShowsFewestBlame(t *testing.T) {
	for _, x := range []struct {
		name         string
		ices         []glass.Ice
		fewest       []int
		shows, blame int
		e, f         api.Errno
	}{
		{"no ice", nil, nil, 0, 0, api.ErrNone, api.ErrNone},
		{"ices that agree", []glass.Ice{ice(3, 4, 1), ice(0, 1, 0)}, nil, 0, 0, api.ErrNone, api.ErrNone},
		{"the example", exampleIces(), []int{1}, 2, 0, api.OK, api.ErrNone},
		{"one that is false by itself", []glass.Ice{ice(0, 3, 0)}, []int{0}, 0, 0, api.OK, api.OK},
		{"one ahead of a true one", []glass.Ice{ice(0, 3, 0), ice(0, 1, 0)}, []int{0}, 0, 0, api.OK, api.OK},
		{"one behind a true one", []glass.Ice{ice(0, 1, 0), ice(0, 3, 0)}, []int{1}, 1, 1, api.OK, api.OK},
		{"one against one", []glass.Ice{ice(0, 1, 0), ice(0, 2, 0)}, []int{0}, 1, 0, api.OK, api.ErrNone},
		{"one against two", []glass.Ice{ice(0, 1, 0), ice(0, 2, 0), ice(0, 2, 0)}, []int{0}, 1, 0, api.OK, api.OK},
		{"one against two, behind one", []glass.Ice{ice(0, 2, 0), ice(0, 1, 0), ice(0, 2, 0)}, []int{1}, 1, 1, api.OK, api.OK},
		{"two against two", []glass.Ice{ice(0, 2, 0), ice(0, 1, 0), ice(0, 1, 0), ice(0, 2, 0)}, []int{0, 3}, 1, 0, api.OK, api.ErrNone},
		{"two that are false by themselves", []glass.Ice{ice(1, -6, 0), ice(0, 3, 0), ice(2, 1, 0)}, []int{1, 2}, 1, 0, api.OK, api.ErrNone},
		// -8 leaves a rise of 2, with -2 one of 4, and a sink of 6: -5, or 0 at least, on the day 3.
		{"only three together do not agree", []glass.Ice{ice(1, -8, 0), ice(2, -2, 0), ice(3, -3, 0)}, []int{0}, 2, 0, api.OK, api.ErrNone},
	} {
		shows, e := glass.Shows(example(), exampleHistory(), x.ices)
		if e != x.e || shows != x.shows {
			t.Errorf("Shows, %s: %d, %v", x.name, shows, e)
		}
		fewest, e := glass.Fewest(example(), exampleHistory(), x.ices)
		if e != api.OK || !slices.Equal(fewest, x.fewest) {
			t.Errorf("Fewest, %s: %v, %v", x.name, fewest, e)
		}
		blame, e := glass.Blame(example(), exampleHistory(), x.ices)
		if e != x.f || blame != x.blame {
			t.Errorf("Blame, %s: %d, %v", x.name, blame, e)
		}
	}
}

// P2.3 at the limits: among eight ices of sixteen days, each of which is false
// by itself, or contradicts all others.
func TestFewestOfEight(t *testing.T) {
	g := glass.Glass{Bands: bands(band(0, to(0, 3))), Depths: depths(100, 7, 200, 13, 300, 22, 400, 30), Back: to(0, 5)}
	history := slices.Repeat([]glass.Range{to(0, 500)}, api.MaxGlassDays)
	var each, others []glass.Ice
	for n := range api.MaxGlassIces {
		each = append(each, ice(15-n, 2000, 20))
		others = append(others, ice(15, n, 0))
	}
	if got, e := glass.Fewest(g, history, each); e != api.OK || !slices.Equal(got, []int{0, 1, 2, 3, 4, 5, 6, 7}) {
		t.Errorf("each is false: %v, %v", got, e)
	}
	if got, e := glass.Fewest(g, history, others); e != api.OK || !slices.Equal(got, []int{0, 1, 2, 3, 4, 5, 6}) {
		t.Errorf("they contradict each other: %v, %v", got, e)
	}
	if got, e := glass.Zeros(g, history, nil); e != api.OK || got[15] != to(-30, 48) {
		t.Errorf("no ice: %v, %v", got, e)
	}
}

// P2.4: the chapter's example, and others that were worked out by hand.
func TestHolds(t *testing.T) {
	for _, x := range []struct {
		name      string
		ices      []glass.Ice
		low, high int
		want      int
		e         api.Errno
	}{
		{"the example", nil, -10, 10, 2, api.OK},
		{"all days", nil, -22, 5, 3, api.OK},
		{"all numbers", nil, math.MinInt, math.MaxInt, 3, api.OK},
		{"the last day is too low", nil, -21, 5, 2, api.OK},
		{"the last day is too high", nil, -22, 4, 2, api.OK},
		{"the day 1 is out, the day 2 is not", nil, -7, 10, 0, api.OK},
		{"the first day alone", nil, 1, 2, 0, api.OK},
		{"the first day is too low", nil, 2, 2, 0, api.ErrBound},
		{"the first day is too high", nil, -50, 1, 0, api.ErrBound},
		{"the first day is behind ice", []glass.Ice{ice(0, 2, 0)}, 2, 2, 0, api.OK},
		{"ice on the last day keeps it", []glass.Ice{ice(3, 4, 1)}, -10, 10, 3, api.OK},
		{"one number", nil, 7, 7, 0, api.ErrBound},
		{"no range", nil, 8, 7, 0, api.ErrRange},
		{"ices that do not agree", exampleIces(), -10, 10, 0, api.ErrFail},
	} {
		got, e := glass.Holds(example(), exampleHistory(), x.ices, x.low, x.high)
		if e != x.e || got != x.want {
			t.Errorf("%s: %d, %v, not %d, %v", x.name, got, e, x.want, x.e)
		}
	}
}
