package cert_test

import (
	"math"
	"slices"
	"testing"

	"meniscus/api"
	"meniscus/bore"
	"meniscus/cert"
	"meniscus/point"
)

// arguments are those of all calls: Best has the instrument as the first one of
// its list, ahead of others.
type arguments struct {
	x         cert.Instrument
	others    []cert.Instrument
	s         point.Scale
	u         cert.Use
	mark, day int
}

// exampleArguments leave each call without an error.
func exampleArguments() arguments {
	return arguments{x: example(), others: []cert.Instrument{drifting(1, 2)}, s: point.Scale{Steam: 100}, u: use(0, 4, 90), mark: 2}
}

// results are what each call returns.
type results struct {
	heights, corrections []cert.Range
	told                 point.Range
	kept                 bool
	days                 cert.Range
	hangs, enough        []int
	which, last          int
	errors               [9]api.Errno
}

// The places of the calls in results.errors.
const (
	ofCheckInstrument = iota
	ofHeights
	ofCorrections
	ofTold
	ofKept
	ofDays
	ofHangs
	ofEnough
	ofBest
)

func callAll(a arguments) results {
	var r results
	r.errors[ofCheckInstrument] = cert.CheckInstrument(a.x)
	r.heights, r.errors[ofHeights] = cert.Heights(a.x, a.day)
	r.corrections, r.errors[ofCorrections] = cert.Corrections(a.x, a.day)
	r.told, r.errors[ofTold] = cert.Told(a.x, a.s, a.mark, a.day)
	r.kept, r.errors[ofKept] = cert.Kept(a.x, a.u, a.day)
	r.days, r.errors[ofDays] = cert.Days(a.x, a.u)
	r.hangs, r.errors[ofHangs] = cert.Hangs(a.x, a.u, a.day)
	r.enough, r.errors[ofEnough] = cert.Enough(a.x, a.u, a.day)
	r.which, r.last, r.errors[ofBest] = cert.Best(append([]cert.Instrument{a.x}, a.others...), a.u, a.day)
	return r
}

// zeroWithErrors reports whether each result that comes with an error is zero.
func (r results) zeroWithErrors() bool {
	zero := [9]bool{
		true, len(r.heights) == 0, len(r.corrections) == 0, r.told == point.Range{}, !r.kept,
		r.days == cert.Range{}, len(r.hangs) == 0, len(r.enough) == 0, r.which == 0 && r.last == 0,
	}
	for call, e := range r.errors {
		if e != api.OK && !zero[call] {
			return false
		}
	}
	return true
}

func (r results) same(other results) bool {
	return slices.Equal(r.heights, other.heights) && slices.Equal(r.corrections, other.corrections) &&
		r.told == other.told && r.kept == other.kept && r.days == other.days &&
		slices.Equal(r.hangs, other.hangs) && slices.Equal(r.enough, other.enough) &&
		r.which == other.which && r.last == other.last && r.errors == other.errors
}

// R1 and R2, with the chapter's table of errors: each case has what its name
// says, and all that would come later.
func TestWhichErrorComesFirst(t *testing.T) {
	const (
		ok, arg, rng, limit = api.OK, api.ErrArg, api.ErrRange, api.ErrLimit
		fail, bound, stale  = api.ErrFail, api.ErrBound, api.ErrStale
	)
	all := func(e api.Errno) [9]api.Errno { return [9]api.Errno{e, e, e, e, e, e, e, e, e} }
	// later has all that is wrong with other arguments than the instrument.
	later := func(a *arguments) {
		a.s, a.u, a.mark, a.day = point.Scale{}, use(3, 2, 80), 5, 10001
	}
	contradicting := func(a *arguments) {
		later(a)
		a.x.Readings = append(a.x.Readings, thread(0, 2, 40, 40))
	}
	broken := func(a *arguments) {
		later(a)
		a.x = cert.Instrument{Readings: make([]bore.Reading, 12), Table: make([]point.Step, 8), Drift: to(3, 1)}
	}
	for _, c := range []struct {
		name   string
		change func(a *arguments)
		want   [9]api.Errno
	}{
		{"nothing wrong", func(a *arguments) {}, all(ok)},
		{"too many instruments, and nothing is right", func(a *arguments) { broken(a); a.others = make([]cert.Instrument, 8) }, [9]api.Errno{arg, arg, arg, arg, arg, arg, arg, arg, limit}},
		{"too many readings, and nothing is right", func(a *arguments) { broken(a); a.x.Readings = make([]bore.Reading, 13) }, all(limit)},
		{"too many steps, and nothing is right", func(a *arguments) { broken(a); a.x.Table = make([]point.Step, 9) }, all(limit)},
		{"too many readings, and all else of it is right", func(a *arguments) { later(a); a.x.Readings = make([]bore.Reading, 13) }, all(limit)},
		{"too many steps, and readings that contradict each other", func(a *arguments) { contradicting(a); a.x.Table = manySteps(9) }, all(limit)},
		{"an instrument that is none", broken, all(arg)},
		{"no tube", func(a *arguments) { contradicting(a); a.x.Tube = bore.Tube{} }, all(arg)},
		{"no table, and readings that contradict each other", func(a *arguments) { contradicting(a); a.x.Table = nil }, all(arg)},
		{"no Drift, and readings that contradict each other", func(a *arguments) { contradicting(a); a.x.Drift = to(3, 1) }, all(arg)},
		{"no reading, and others that contradict each other", func(a *arguments) { contradicting(a); a.x.Readings = append(a.x.Readings, thread(4, 4, 0, 0)) }, all(arg)},
		{"no pressures, and readings that contradict each other", func(a *arguments) { contradicting(a); a.x.Pressures.Hi = 801 }, all(arg)},
		{"readings that contradict each other", contradicting, all(fail)},
		{"no scale, no use, no mark and no day", later, [9]api.Errno{ok, rng, rng, arg, rng, rng, rng, rng, rng}},
		{"no scale and no mark", func(a *arguments) { later(a); a.u, a.day = use(0, 4, 80), 0 }, [9]api.Errno{ok, ok, ok, arg, ok, stale, bound, bound, stale}},
		{"no scale and no day", func(a *arguments) { later(a); a.u, a.mark = use(0, 4, 80), 4 }, [9]api.Errno{ok, rng, rng, arg, rng, stale, rng, rng, rng}},
		{"no day, and a use that is never kept", func(a *arguments) { a.u, a.day = use(0, 4, 80), -1 }, [9]api.Errno{ok, rng, rng, rng, rng, stale, rng, rng, rng}},
		{"no mark", func(a *arguments) { a.mark = -1 }, [9]api.Errno{ok, ok, ok, rng, ok, ok, ok, ok, ok}},
		{"no use", func(a *arguments) { a.u = use(0, 5, 80) }, [9]api.Errno{ok, ok, ok, ok, rng, rng, rng, rng, rng}},
		{"a use that is never kept", func(a *arguments) { a.u = use(0, 4, 80) }, [9]api.Errno{ok, ok, ok, ok, ok, stale, bound, bound, stale}},
		{"a use that is not kept any more", func(a *arguments) { a.day = 1 }, [9]api.Errno{ok, ok, ok, ok, ok, ok, bound, bound, stale}},
	} {
		a := exampleArguments()
		c.change(&a)
		r := callAll(a)
		if r.errors != c.want {
			t.Errorf("%s: %v, not %v", c.name, r.errors, c.want)
		}
		if !r.zeroWithErrors() {
			t.Errorf("%s: results with errors: %v", c.name, r)
		}
	}
}

// Best asks what there is to ask of an instrument, and the use, of one instrument
// after the other, and then the day, and then whether one keeps the use.
func TestBestAsksInOrder(t *testing.T) {
	tooMany, none, contradicting, short := example(), example(), example(), even(3, 1000, to(0, 0))
	tooMany.Readings = make([]bore.Reading, 13)
	none.Drift = to(3, 1)
	contradicting.Readings = append(contradicting.Readings, thread(0, 2, 40, 40))
	faults := []struct {
		x    cert.Instrument
		want api.Errno
	}{{tooMany, api.ErrLimit}, {none, api.ErrArg}, {contradicting, api.ErrFail}, {short, api.ErrRange}}
	ask := func(l []cert.Instrument, day int, want api.Errno) {
		which, last, e := cert.Best(l, use(0, 4, 80), day)
		if which != 0 || last != 0 || e != want {
			t.Errorf("%v, on the day %d: %d, %d, %v, not %v", l, day, which, last, e, want)
		}
	}
	for _, f := range faults {
		for _, g := range faults {
			ask([]cert.Instrument{f.x, g.x}, -1, f.want)
			ask([]cert.Instrument{example(), f.x, example(), g.x}, 10001, f.want)
		}
		ask([]cert.Instrument{example(), example(), f.x}, 0, f.want)
	}
	ask([]cert.Instrument{example(), example()}, 10001, api.ErrRange)
	ask([]cert.Instrument{example(), example()}, 10000, api.ErrStale)
}

// P1: no argument makes a call panic.
func TestNoArgumentPanics(t *testing.T) {
	numbers := []int{math.MinInt, math.MinInt + 1, -1001, -1, 0, 0, 1, 2, 3, 4, 5, 10, 11, 20, 40, 100, 101, 720, 760, 800, 1000, 2000, 2001, 10000, 10001, math.MaxInt - 1, math.MaxInt}
	d := newDice(1)
	pick := func() int { return numbers[d.IntN(len(numbers))] }
	instrument := func() cert.Instrument {
		x := example()
		switch d.IntN(8) {
		case 0:
			x.Tube = tube(pick(), pick(), pick(), pick())
		case 1:
			x.Readings = slices.Repeat(append(x.Readings, thread(pick(), pick(), pick(), pick())), d.IntN(5))
		case 2:
			x.Table = slices.Repeat([]point.Step{{Pressure: pick(), Height: pick()}}, d.IntN(10))
		case 3:
			x.Table[d.IntN(3)] = point.Step{Pressure: pick(), Height: pick()}
		case 4:
			x.Pressures = point.Range{Lo: pick(), Hi: pick()}
		case 5:
			x.Drift = to(pick(), pick())
		case 6:
			x = cert.Instrument{}
		}
		return x
	}
	for range 20000 {
		a := exampleArguments()
		a.x = instrument()
		for range d.IntN(3) {
			a.others = append(a.others, instrument())
		}
		switch d.IntN(4) {
		case 0:
			a.u = use(pick(), pick(), pick())
		case 1:
			a.s = point.Scale{Ice: pick(), Steam: pick()}
		case 2:
			a.mark, a.day = pick(), pick()
		}
		if r := callAll(a); !r.zeroWithErrors() {
			t.Fatalf("%v: %v", a, r)
		}
	}
}

// R3: a list without elements is as nil.
func TestEmptyIsNil(t *testing.T) {
	none, empty := exampleArguments(), exampleArguments()
	none.u.Within, empty.u.Within = 100, 100
	none.x.Readings, empty.x.Readings = nil, []bore.Reading{}
	if a, b := callAll(none), callAll(empty); !a.same(b) || a.errors != [9]api.Errno{} || len(a.hangs)+len(a.enough) != 0 {
		t.Errorf("readings: %v, %v", a, b)
	}
	none.x.Table, empty.x.Table = nil, []point.Step{}
	if a, b := callAll(none), callAll(empty); !a.same(b) || a.errors[ofCheckInstrument] != api.ErrArg {
		t.Errorf("steps: %v, %v", a, b)
	}
	for _, l := range [][]cert.Instrument{nil, {}} {
		if which, last, e := cert.Best(l, use(0, 4, 100), 0); which != 0 || last != 0 || e != api.ErrStale {
			t.Errorf("instruments: %d, %d, %v", which, last, e)
		}
	}
}

// R4, and that a call is again as it was: arguments stay as they are, and what is
// done with results changes nothing.
func TestMemory(t *testing.T) {
	// Behind the list's end there is room, which is not the program's to write to.
	l := make([]bore.Reading, 2, 12)
	copy(l, example().Readings)
	a, x := exampleArguments(), exampleArguments()
	a.x.Readings = l
	for range 3 {
		first, again := callAll(a), callAll(x)
		if !first.same(again) || again.errors != [9]api.Errno{} {
			t.Errorf("twice the same: %v, %v", first, again)
		}
		for _, ranges := range [][]cert.Range{first.heights, first.corrections} {
			for n := range ranges[:cap(ranges)] {
				ranges[:cap(ranges)][n] = to(7, 7)
			}
		}
		for _, numbers := range [][]int{first.hangs, first.enough} {
			for n := range numbers[:cap(numbers)] {
				numbers[:cap(numbers)][n] = 7
			}
		}
	}
	if !slices.Equal(l, x.x.Readings) || !slices.Equal(a.x.Table, example().Table) || slices.ContainsFunc(l[2:12], func(r bore.Reading) bool { return r != bore.Reading{} }) {
		t.Errorf("arguments were written to: %v, %v", a, l[:12])
	}
}
