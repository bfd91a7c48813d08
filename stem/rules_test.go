package stem_test

import (
	"math"
	"slices"
	"testing"

	"meniscus/api"
	"meniscus/glass"
	"meniscus/stem"
)

// arguments are those of all calls.
type arguments struct {
	t       stem.Tube
	history []glass.Range
	ices    []glass.Ice
	r       stem.Reading
	l       []stem.Reading
	x       stem.Truth
	most    int
}

// exampleArguments leave each call but IceOf, whose Error would be too great,
// without an error.
func exampleArguments() arguments {
	return arguments{
		t: example(), history: exampleHistory(), ices: ices(ice(1, -6, 0), ice(3, 4, 1)), r: exampleReading(),
		l: readings(exampleReading(), shown(2, 2025, 2)), x: exampleTruth(), most: 22,
	}
}

// results are what each call returns.
type results struct {
	play, bare            int
	correct, accept, same glass.Range
	iceOf                 glass.Ice
	errors                [7]api.Errno
}

// The places of the calls in results.errors.
const (
	ofCheckTube = iota
	ofPlay
	ofCorrect
	ofAccept
	ofBare
	ofIceOf
	ofSame
)

func callAll(a arguments) results {
	var r results
	r.errors[ofCheckTube] = stem.CheckTube(a.t)
	r.play, r.errors[ofPlay] = stem.Play(a.t, a.r, a.x)
	r.correct, r.errors[ofCorrect] = stem.Correct(a.t, a.history, a.ices, a.r)
	r.accept, r.errors[ofAccept] = stem.Accept(a.t, a.history, a.ices, a.r, a.most)
	r.bare, r.errors[ofBare] = stem.Bare(a.t, a.history, a.ices, a.r, a.most)
	r.iceOf, r.errors[ofIceOf] = stem.IceOf(a.t, a.r)
	r.same, r.errors[ofSame] = stem.Same(a.t, a.history, a.ices, a.l)
	return r
}

// zeroWithErrors reports whether each result that comes with an error is zero.
func (r results) zeroWithErrors() bool {
	zero := [7]bool{
		true, r.play == 0, r.correct == glass.Range{}, r.accept == glass.Range{}, r.bare == 0,
		r.iceOf == glass.Ice{}, r.same == glass.Range{},
	}
	for call, e := range r.errors {
		if e != api.OK && !zero[call] {
			return false
		}
	}
	return true
}

// breakReadings makes all readings broken.
func (a *arguments) breakReadings() {
	a.r.Broken = true
	for n := range a.l {
		a.l[n].Broken = true
	}
}

// setDay makes all readings those of the day.
func (a *arguments) setDay(day int) {
	a.r.Day = day
	for n := range a.l {
		a.l[n].Day = day
	}
}

// disagree makes ices that do not agree, and none of which makes a reading of
// the day 3 fresh.
func (a *arguments) disagree() { a.ices = ices(ice(0, 2, 0), ice(0, 5, 0)) }

// R1 and R2, with the chapter's table of errors: each case has what its name
// says, and all that would come later.
func TestWhichErrorComesFirst(t *testing.T) {
	const (
		ok, arg, rng, limit = api.OK, api.ErrArg, api.ErrRange, api.ErrLimit
		none, state, fail   = api.ErrNone, api.ErrState, api.ErrFail
		bound, stale        = api.ErrBound, api.ErrStale
	)
	// later has all that is wrong with readings, and with what is told of them.
	later := func(a *arguments) {
		a.disagree()
		a.setDay(4)
		a.breakReadings()
		a.x.K, a.most = 21, -1
		a.l = slices.Repeat(a.l, 3)
	}
	for _, x := range []struct {
		name   string
		change func(a *arguments)
		want   [7]api.Errno
	}{
		{"nothing wrong", func(a *arguments) {}, [7]api.Errno{ok, ok, ok, ok, ok, bound, ok}},
		{"a glass with too many bands", func(a *arguments) { later(a); a.t.Glass.Bands = make([]glass.Band, 4); a.t.Term = 17; a.history = nil }, [7]api.Errno{limit, limit, limit, limit, limit, limit, limit}},
		{"no glass", func(a *arguments) { later(a); a.t = stem.Tube{Term: 17}; a.history = days(17) }, [7]api.Errno{arg, arg, arg, arg, arg, arg, arg}},
		{"no tube", func(a *arguments) { later(a); a.t.Term = 17; a.history = days(17) }, [7]api.Errno{arg, arg, arg, arg, arg, arg, arg}},
		{"too many days", func(a *arguments) { later(a); a.setDay(16); a.history = days(17) }, [7]api.Errno{ok, rng, limit, limit, limit, rng, limit}},
		{"no history", func(a *arguments) { later(a); a.setDay(16); a.history = nil; a.ices = make([]glass.Ice, 9) }, [7]api.Errno{ok, rng, rng, rng, rng, rng, rng}},
		{"too many ices", func(a *arguments) { later(a); a.setDay(16); a.ices = make([]glass.Ice, 9) }, [7]api.Errno{ok, rng, limit, limit, limit, rng, limit}},
		{"an ice that is none", func(a *arguments) { later(a); a.ices = append(a.ices, ice(4, 0, 0)) }, [7]api.Errno{ok, rng, rng, rng, rng, state, rng}},
		{"too many readings, of a day that is none", later, [7]api.Errno{ok, rng, rng, rng, rng, state, limit}},
		{"readings of a day that is none", func(a *arguments) { later(a); a.l = a.l[:2]; a.setDay(16) }, [7]api.Errno{ok, rng, rng, rng, rng, rng, rng}},
		{"a truth that is none, and a number below 0", func(a *arguments) { later(a); a.setDay(3); a.l = a.l[:2] }, [7]api.Errno{ok, rng, state, rng, rng, state, state}},
		{"broken", func(a *arguments) { later(a); a.setDay(3); a.l, a.x, a.most = a.l[:2], exampleTruth(), 0 }, [7]api.Errno{ok, ok, state, state, state, state, state}},
		{"one of them is broken", func(a *arguments) { a.disagree(); a.setDay(3); a.l[1].Broken, a.most = true, 0 }, [7]api.Errno{ok, ok, stale, stale, stale, bound, state}},
		{"stale", func(a *arguments) { a.disagree(); a.setDay(3); a.most = 0 }, [7]api.Errno{ok, ok, stale, stale, stale, bound, stale}},
		{"ices that do not agree", func(a *arguments) { a.disagree(); a.most = 0 }, [7]api.Errno{ok, ok, fail, fail, fail, bound, fail}},
		{"it is not sure enough, and they are not of one temperature", func(a *arguments) { a.most = 0; a.l[1].Shown = 0 }, [7]api.Errno{ok, ok, ok, bound, none, bound, fail}},
	} {
		a := exampleArguments()
		x.change(&a)
		r := callAll(a)
		if r.errors != x.want {
			t.Errorf("%s: %v, not %v", x.name, r.errors, x.want)
		}
		if !r.zeroWithErrors() {
			t.Errorf("%s: results with errors: %v", x.name, r)
		}
	}
}

// What is wrong with one of several readings is asked of all of them, before
// anything else is asked: wherever it stands.
func TestWhicheverReadingItIs(t *testing.T) {
	good := shown(2, 2025, 2)
	for _, x := range []struct {
		name   string
		change func(r *stem.Reading)
		want   api.Errno
	}{
		{"broken", func(r *stem.Reading) { r.Broken = true }, api.ErrState},
		{"not as described", func(r *stem.Reading) { r.Deep = 21 }, api.ErrRange},
		{"of another day", func(r *stem.Reading) { r.Day = 1 }, api.ErrRange},
		{"of another temperature", func(r *stem.Reading) { r.Shown = 0 }, api.ErrFail},
	} {
		for n := range api.MaxStemReadings {
			l := slices.Repeat(readings(good), api.MaxStemReadings)
			x.change(&l[n])
			if got, e := stem.Same(example(), exampleHistory(), nil, l); got != to(0, 0) || e != x.want {
				t.Errorf("%d is %s: %v, %v, not %v", n, x.name, got, e, x.want)
			}
		}
	}
}

// P1: no argument makes a call panic.
func TestNoArgumentPanics(t *testing.T) {
	numbers := []int{math.MinInt, math.MinInt + 1, -5001, -2001, -101, -21, -1, 0, 0, 0, 1, 2, 3, 5, 6, 16, 20, 21, 100, 300, 301, 2000, 5000, math.MaxInt - 1, math.MaxInt}
	d := newDice(1)
	pick := func() int { return numbers[d.IntN(len(numbers))] }
	reading := func() stem.Reading {
		r := exampleReading()
		switch d.IntN(7) {
		case 0:
			r = stem.Reading{Day: pick(), Shown: pick(), Error: pick(), Bare: pick(), Air: to(pick(), pick()), Rate: to(pick(), pick()), Deep: pick()}
		case 1:
			r.Day, r.Broken = pick(), d.IntN(2) == 0
		case 2:
			r.Shown, r.Error = pick(), pick()
		case 3:
			r.Bare, r.Deep = pick(), pick()
		case 4:
			r.Air, r.Rate = to(pick(), pick()), to(pick(), pick())
		}
		return r
	}
	for range 15000 {
		a := exampleArguments()
		a.r, a.most = reading(), pick()
		for range d.IntN(6) {
			a.l = append(a.l, reading())
		}
		switch d.IntN(6) {
		case 0:
			a.t = stem.Tube{Glass: a.t.Glass, K: to(pick(), pick()), Lag: to(pick(), pick()), Squeeze: to(pick(), pick()), Term: pick()}
		case 1:
			a.t.Glass.Base, a.t.Glass.Back = pick(), to(pick(), pick())
		case 2:
			a.history = append(a.history, slices.Repeat([]glass.Range{to(pick(), pick())}, d.IntN(15))...)
		case 3:
			a.ices = append(a.ices, slices.Repeat(ices(ice(pick(), pick(), pick())), d.IntN(9))...)
		case 4:
			a.x = stem.Truth{Zero: pick(), K: pick(), Lag: pick(), Squeeze: pick(), Air: pick(), Rate: pick(), Off: pick()}
		}
		if r := callAll(a); !r.zeroWithErrors() {
			t.Fatalf("%v: %v", a, r)
		}
	}
}

// R3: a list without elements is as nil.
func TestEmptyIsNil(t *testing.T) {
	none, empty := exampleArguments(), exampleArguments()
	none.ices, empty.ices = nil, ices()
	if a, b := callAll(none), callAll(empty); a != b || a.errors[ofCorrect] != api.OK || a == callAll(exampleArguments()) {
		t.Errorf("ices: %v, %v", a, b)
	}
	none.l, empty.l = nil, readings()
	if a, b := callAll(none), callAll(empty); a != b || a.errors[ofSame] != api.ErrRange {
		t.Errorf("readings: %v, %v", a, b)
	}
	none.history, empty.history = nil, days(0)
	if a, b := callAll(none), callAll(empty); a != b || a.errors[ofCorrect] != api.ErrRange {
		t.Errorf("days: %v, %v", a, b)
	}
	none.t.Glass.Bands, empty.t.Glass.Bands = nil, []glass.Band{}
	none.t.Glass.Depths, empty.t.Glass.Depths = nil, []glass.Depth{}
	if a, b := callAll(none), callAll(empty); a != b || a.errors[ofCheckTube] != api.ErrArg {
		t.Errorf("glass: %v, %v", a, b)
	}
}

// R4, and that a call is again as it was: arguments stay as they are. (Results
// have no memory that they could share.)
func TestMemory(t *testing.T) {
	a, x := exampleArguments(), exampleArguments()
	for range 3 {
		if first, again := callAll(a), callAll(x); first != again {
			t.Errorf("twice the same: %v, %v", first, again)
		}
	}
	x = exampleArguments()
	if !slices.Equal(a.history, x.history) || !slices.Equal(a.ices, x.ices) || !slices.Equal(a.l, x.l) ||
		!slices.Equal(a.t.Glass.Bands, x.t.Glass.Bands) || !slices.Equal(a.t.Glass.Depths, x.t.Glass.Depths) {
		t.Errorf("arguments were written to: %v", a)
	}
}
