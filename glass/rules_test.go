package glass_test

import (
	"math"
	"slices"
	"testing"

	"meniscus/api"
	"meniscus/glass"
)

// results are what each call that can have an error returns.
type results struct {
	play                []int
	zeros               []glass.Range
	fewest              []int
	shows, blame, holds int
	errors              [6]api.Errno
}

// The places of the calls in results.errors.
const (
	ofPlay = iota
	ofZeros
	ofShows
	ofFewest
	ofBlame
	ofHolds
)

func callAll(g glass.Glass, history []glass.Range, ices []glass.Ice, truth glass.Truth, low, high int) results {
	var r results
	r.play, r.errors[ofPlay] = glass.Play(g, history, truth)
	r.zeros, r.errors[ofZeros] = glass.Zeros(g, history, ices)
	r.shows, r.errors[ofShows] = glass.Shows(g, history, ices)
	r.fewest, r.errors[ofFewest] = glass.Fewest(g, history, ices)
	r.blame, r.errors[ofBlame] = glass.Blame(g, history, ices)
	r.holds, r.errors[ofHolds] = glass.Holds(g, history, ices, low, high)
	return r
}

// zeroWithErrors reports whether each result that comes with an error is zero.
func (r results) zeroWithErrors() bool {
	zero := [6]bool{len(r.play) == 0, len(r.zeros) == 0, r.shows == 0, len(r.fewest) == 0, r.blame == 0, r.holds == 0}
	for call, e := range r.errors {
		if e != api.OK && !zero[call] {
			return false
		}
	}
	return true
}

func equalResults(a, b results) bool {
	return slices.Equal(a.play, b.play) && slices.Equal(a.zeros, b.zeros) && slices.Equal(a.fewest, b.fewest) &&
		a.shows == b.shows && a.blame == b.blame && a.holds == b.holds && a.errors == b.errors
}

// R1 and R2, with the chapter's table of errors: each case has what its name
// says, and all that would come later.
func TestWhichErrorComesFirst(t *testing.T) {
	const (
		arg, rng, limit = api.ErrArg, api.ErrRange, api.ErrLimit
		none, fail      = api.ErrNone, api.ErrFail
		bound, ok       = api.ErrBound, api.OK
	)
	wrong := glass.Glass{Base: 1001}
	manyBands, manyDepths := wrong, wrong
	manyBands.Bands = make([]glass.Band, 4)
	manyDepths.Depths = make([]glass.Depth, 5)
	badDays, badIces := slices.Repeat([]glass.Range{to(1, 0)}, 17), slices.Repeat([]glass.Ice{ice(4, 0, 0)}, 9)
	falseIces := []glass.Ice{ice(0, 2, 0), ice(0, 5, 0)}
	for _, x := range []struct {
		name      string
		g         glass.Glass
		history   []glass.Range
		ices      []glass.Ice
		truth     glass.Truth
		low, high int
		want      [6]api.Errno
	}{
		{"too many bands", manyBands, badDays, badIces, glass.Truth{}, 1, 0, [6]api.Errno{limit, limit, limit, limit, limit, limit}},
		{"too many depths", manyDepths, badDays, badIces, glass.Truth{}, 1, 0, [6]api.Errno{limit, limit, limit, limit, limit, limit}},
		{"no glass", wrong, badDays, badIces, glass.Truth{}, 1, 0, [6]api.Errno{arg, arg, arg, arg, arg, arg}},
		{"too many days", example(), badDays, badIces, glass.Truth{}, 1, 0, [6]api.Errno{limit, limit, limit, limit, limit, limit}},
		{"a day of no range", example(), badDays[:16], badIces, glass.Truth{}, 1, 0, [6]api.Errno{rng, rng, rng, rng, rng, rng}},
		{"no days", example(), nil, badIces, glass.Truth{}, 1, 0, [6]api.Errno{rng, rng, rng, rng, rng, rng}},
		{"too many ices", example(), exampleHistory(), badIces, glass.Truth{}, 1, 0, [6]api.Errno{rng, limit, limit, limit, limit, limit}},
		{"an ice of none of the days", example(), exampleHistory(), append(falseIces, badIces[0]), glass.Truth{}, 1, 0, [6]api.Errno{rng, rng, rng, rng, rng, rng}},
		{"low above high", example(), exampleHistory(), falseIces, exampleTruth(), 1, 0, [6]api.Errno{ok, fail, ok, ok, ok, rng}},
		{"ices that do not agree", example(), exampleHistory(), falseIces, exampleTruth(), 0, 0, [6]api.Errno{ok, fail, ok, ok, ok, fail}},
		{"the first day is out", example(), exampleHistory(), falseIces[:1], exampleTruth(), 0, 0, [6]api.Errno{ok, ok, none, ok, none, bound}},
		{"nothing wrong", example(), exampleHistory(), nil, exampleTruth(), -10, 10, [6]api.Errno{ok, ok, none, ok, none, ok}},
	} {
		r := callAll(x.g, x.history, x.ices, x.truth, x.low, x.high)
		if r.errors != x.want {
			t.Errorf("%s: %v, not %v", x.name, r.errors, x.want)
		}
		if !r.zeroWithErrors() {
			t.Errorf("%s: results with errors: %v", x.name, r)
		}
	}
}

// Each limit of histories, and one beyond it.
func TestHistories(t *testing.T) {
	days := func(n int) []glass.Range { return slices.Repeat([]glass.Range{to(0, 0)}, n) }
	for _, x := range []struct {
		history []glass.Range
		want    api.Errno
	}{
		{days(1), api.OK},
		{days(16), api.OK},
		{days(17), api.ErrLimit},
		{nil, api.ErrRange},
		{[]glass.Range{}, api.ErrRange},
		{append(days(15), to(0, 500)), api.OK},
		{append(days(15), to(500, 500)), api.OK},
		{append(days(15), to(0, 501)), api.ErrRange},
		{append(days(15), to(-1, 0)), api.ErrRange},
		{append(days(15), to(11, 10)), api.ErrRange},
		{[]glass.Range{to(math.MaxInt, math.MinInt)}, api.ErrRange},
		{[]glass.Range{to(math.MinInt, math.MaxInt)}, api.ErrRange},
	} {
		if _, e := glass.Zeros(still(), x.history, nil); e != x.want {
			t.Errorf("%v: %v, not %v", x.history, e, x.want)
		}
	}
}

// Each limit of ices, and one beyond it.
func TestIces(t *testing.T) {
	for _, x := range []struct {
		ices []glass.Ice
		want api.Errno
	}{
		{nil, api.OK},
		{slices.Repeat([]glass.Ice{ice(0, 0, 0)}, 8), api.OK},
		{slices.Repeat([]glass.Ice{ice(0, 0, 0)}, 9), api.ErrLimit},
		{[]glass.Ice{ice(3, 0, 0)}, api.OK},
		{[]glass.Ice{ice(4, 0, 0)}, api.ErrRange},
		{[]glass.Ice{ice(0, 0, 0), ice(-1, 0, 0)}, api.ErrRange},
		{[]glass.Ice{ice(0, 2000, 20)}, api.OK},
		{[]glass.Ice{ice(0, 2001, 20)}, api.ErrRange},
		{[]glass.Ice{ice(0, -2000, 20)}, api.OK},
		{[]glass.Ice{ice(0, -2001, 20)}, api.ErrRange},
		{[]glass.Ice{ice(0, 0, 21)}, api.ErrRange},
		{[]glass.Ice{ice(0, 0, -1)}, api.ErrRange},
		{[]glass.Ice{ice(math.MaxInt, math.MinInt, math.MaxInt)}, api.ErrRange},
		{[]glass.Ice{ice(0, math.MaxInt, math.MaxInt)}, api.ErrRange},
	} {
		if _, e := glass.Fewest(example(), exampleHistory(), x.ices); e != x.want {
			t.Errorf("%v: %v, not %v", x.ices, e, x.want)
		}
	}
	// The greatest Error is used: readings that are wrong by 20 are true with it.
	if got, e := glass.Fewest(still(), []glass.Range{to(0, 0)}, []glass.Ice{ice(0, 20, 20), ice(0, -20, 20), ice(0, 20, 19)}); e != api.OK || !slices.Equal(got, []int{2}) {
		t.Errorf("errors of 20 and of 19: %v, %v", got, e)
	}
}

// P1: no argument makes a call panic.
func TestNoArgumentPanics(t *testing.T) {
	numbers := []int{math.MinInt, -1001, -1, 0, 0, 1, 2, 3, 5, 16, 20, 30, 500, 2000, math.MaxInt}
	d := newDice(4)
	pick := func() int { return numbers[d.IntN(len(numbers))] }
	list := func() []int { return []int{pick(), pick(), pick(), pick()}[:d.IntN(5)] }
	for range 20000 {
		g := glass.Glass{Base: pick(), Back: to(pick(), pick())}
		for range d.IntN(5) {
			g.Bands = append(g.Bands, band(pick(), to(pick(), pick())))
		}
		for range d.IntN(6) {
			g.Depths = append(g.Depths, depths(pick(), pick())...)
		}
		if d.IntN(2) == 0 {
			g = example()
		}
		var history []glass.Range
		for range d.IntN(18) {
			history = append(history, to(pick(), pick()))
		}
		if d.IntN(2) == 0 {
			history = exampleHistory()
		}
		var ices []glass.Ice
		for range d.IntN(10) {
			ices = append(ices, ice(pick(), pick(), pick()))
		}
		truth := glass.Truth{Heats: list(), Creeps: list(), Backs: list()}
		glass.CheckGlass(g)
		glass.ProveTruth(g, history, ices, truth)
		if r := callAll(g, history, ices, truth, pick(), pick()); !r.zeroWithErrors() {
			t.Fatalf("%v, %v, %v, %v: %v", g, history, ices, truth, r)
		}
	}
}

// R3: a list without elements is as nil.
func TestEmptyIsNil(t *testing.T) {
	none := callAll(example(), exampleHistory(), nil, exampleTruth(), -10, 10)
	empty := callAll(example(), exampleHistory(), []glass.Ice{}, exampleTruth(), -10, 10)
	if !equalResults(none, empty) {
		t.Errorf("%v, %v", none, empty)
	}
	g := example()
	g.Bands = []glass.Band{}
	if e := glass.CheckGlass(g); e != api.ErrArg {
		t.Errorf("no bands: %v", e)
	}
	g = example()
	g.Depths = []glass.Depth{}
	if e := glass.CheckGlass(g); e != api.ErrArg {
		t.Errorf("no depths: %v", e)
	}
	if !glass.ProveTruth(example(), exampleHistory(), []glass.Ice{}, exampleTruth()) {
		t.Error("the empty list is not as nil")
	}
}

// R4, and that a call is again as it was: arguments stay as they are, and what
// is written to results changes no later call.
func TestMemory(t *testing.T) {
	for _, ices := range [][]glass.Ice{exampleIces()[:2], exampleIces()} {
		g, history, truth, held := example(), exampleHistory(), exampleTruth(), slices.Clone(ices)
		first, again := callAll(g, history, ices, truth, -10, 10), callAll(g, history, ices, truth, -10, 10)
		if !equalResults(first, again) {
			t.Errorf("twice the same: %v, %v", first, again)
		}
		for _, list := range [][]int{first.play, first.fewest} {
			list = list[:cap(list)]
			for i := range list {
				list[i] = -7
			}
		}
		for i := range first.zeros {
			first.zeros[i] = to(-7, -7)
		}
		glass.ProveTruth(g, history, ices, truth)
		if !equalResults(again, callAll(g, history, ices, truth, -10, 10)) {
			t.Error("results are shared")
		}
		x, y := example(), exampleTruth()
		if !slices.Equal(g.Bands, x.Bands) || !slices.Equal(g.Depths, x.Depths) || !slices.Equal(history, exampleHistory()) || !slices.Equal(ices, held) {
			t.Errorf("arguments were written to: %v, %v, %v", g, history, ices)
		}
		if !slices.Equal(truth.Heats, y.Heats) || !slices.Equal(truth.Creeps, y.Creeps) || !slices.Equal(truth.Backs, y.Backs) {
			t.Errorf("the truth was written to: %v", truth)
		}
	}
}
