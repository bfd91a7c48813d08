package screw_test

import (
	"math"
	"slices"
	"testing"

	"meniscus/api"
	"meniscus/screw"
)

// arguments are those of all calls: place is Right's.
type arguments struct {
	s              screw.Screw
	tick           int
	t              screw.Truth
	scale, cutting []int
	place, bound   int
}

// exampleArguments leave each call without an error.
func exampleArguments() arguments {
	return arguments{s: example(), tick: 7, t: exampleTruth(), scale: even(), cutting: numbers(2, 4, 7), place: 40, bound: 5}
}

// results are what each call that can have an error returns.
type results struct {
	place    int
	bounds   screw.Range
	out      []screw.Range
	wrong    int
	right    []int
	cutting  []int
	settings int
	printed  int
	errors   [8]api.Errno
	proved   bool
}

// The places of the calls in results.errors.
const (
	ofCheckScrew = iota
	ofPlace
	ofBounds
	ofOut
	ofWrong
	ofRight
	ofCut
	ofPrinted
)

func callAll(a arguments) results {
	var r results
	r.errors[ofCheckScrew] = screw.CheckScrew(a.s)
	r.place, r.errors[ofPlace] = screw.Place(a.s, a.tick, a.t)
	r.bounds, r.errors[ofBounds] = screw.Bounds(a.s, a.tick)
	r.out, r.errors[ofOut] = screw.Out(a.s, a.scale, a.cutting)
	r.wrong, r.errors[ofWrong] = screw.Wrong(a.s, a.scale, a.cutting, a.bound)
	r.right, r.errors[ofRight] = screw.Right(a.s, a.place, a.bound)
	r.cutting, r.settings, r.errors[ofCut] = screw.Cut(a.s, a.scale, a.bound)
	r.printed, r.errors[ofPrinted] = screw.Printed(a.s, a.scale)
	r.proved = screw.ProveCutting(a.s, a.scale, a.cutting, a.bound, len(a.scale))
	return r
}

// zeroWithErrors reports whether each result that comes with an error is zero.
func (r results) zeroWithErrors() bool {
	zero := [8]bool{
		true, r.place == 0, r.bounds == screw.Range{}, len(r.out) == 0, r.wrong == 0,
		len(r.right) == 0, len(r.cutting) == 0 && r.settings == 0, r.printed == 0,
	}
	for call, e := range r.errors {
		if e != api.OK && !zero[call] {
			return false
		}
	}
	return true
}

func equalResults(a, b results) bool {
	return a.place == b.place && a.bounds == b.bounds && slices.Equal(a.out, b.out) && a.wrong == b.wrong &&
		slices.Equal(a.right, b.right) && slices.Equal(a.cutting, b.cutting) && a.settings == b.settings &&
		a.printed == b.printed && a.errors == b.errors && a.proved == b.proved
}

// R1 and R2, with the chapter's table of errors: each case has what its name
// says, and all that would come later.
func TestWhichErrorComesFirst(t *testing.T) {
	const ok, arg, rng, limit, none, fail, bound = api.OK, api.ErrArg, api.ErrRange, api.ErrLimit, api.ErrNone, api.ErrFail, api.ErrBound
	all := func(e api.Errno) [8]api.Errno { return [8]api.Errno{e, e, e, e, e, e, e, e} }
	eleven := slices.Repeat(numbers(-1), 11)
	nothing := arguments{s: screw.Screw{Step: 51}, tick: -1, scale: eleven, cutting: eleven, place: -1, bound: -1}
	with := func(changes ...func(a *arguments)) arguments {
		a := nothing
		for _, change := range changes {
			change(&a)
		}
		return a
	}
	phases := func(a *arguments) { a.s.Phases = make([]screw.Range, 9) }
	zones := func(a *arguments) { a.s.Zones = make([]screw.Zone, 4) }
	fine := func(a *arguments) { a.s = example() }
	tick := func(a *arguments) { a.tick = 0 }
	ten := func(a *arguments) { a.scale = eleven[:10] }
	scale := func(a *arguments) { a.scale = numbers(0, 41, 42, 5000) }
	cutting := func(a *arguments) { a.cutting = numbers(0, 4, 7, 12) }
	place := func(a *arguments) { a.place = 5000 }
	higher := func(a *arguments) { a.bound = 5001 }
	nearest := func(a *arguments) { a.bound = 4 }
	crowded := func(a *arguments) { a.scale, a.cutting = numbers(0, 40, 41), numbers(0, 4, 5) }
	crowd := func(a *arguments) { a.s.Ticks, a.scale, a.bound = 1, numbers(0, 1, 2), 5000 }
	example := func(a *arguments) { *a = exampleArguments() }
	keeps := func(a *arguments) { a.cutting = numbers(2, 4, 6) }
	for _, x := range []struct {
		name string
		a    arguments
		want [8]api.Errno
	}{
		{"too many phases", with(phases), all(limit)},
		{"too many zones", with(zones), all(limit)},
		{"no screw", with(), all(arg)},
		{"no screw, all else being good", with(example, func(a *arguments) { a.s.Ticks = 61 }), all(arg)},
		{"too many lines", with(fine), [8]api.Errno{ok, rng, rng, limit, limit, rng, limit, limit}},
		{"no truth", with(fine, tick), [8]api.Errno{ok, rng, ok, limit, limit, rng, limit, limit}},
		{"no scale", with(fine, ten), [8]api.Errno{ok, rng, rng, rng, rng, rng, rng, rng}},
		{"no cutting", with(fine, scale), [8]api.Errno{ok, rng, rng, rng, rng, rng, rng, ok}},
		{"no place", with(fine, scale, cutting, nearest), [8]api.Errno{ok, rng, rng, ok, ok, rng, bound, ok}},
		{"a bound below 0", with(fine, scale, cutting, place), [8]api.Errno{ok, rng, rng, ok, rng, rng, rng, ok}},
		{"a bound beyond the greatest place", with(fine, scale, cutting, place, higher), [8]api.Errno{ok, rng, rng, ok, rng, rng, rng, ok}},
		{"a bound below 0, all else being good", with(example, keeps, func(a *arguments) { a.bound = -1 }), [8]api.Errno{ok, ok, ok, ok, rng, rng, rng, ok}},
		{"a bound that all lines would keep", with(example, keeps, higher), [8]api.Errno{ok, ok, ok, ok, rng, rng, rng, ok}},
		{"no tick is right", with(fine, scale, cutting, place, nearest), [8]api.Errno{ok, rng, rng, ok, ok, none, bound, ok}},
		{"no cutting is", with(fine, crowded, place, nearest), [8]api.Errno{ok, rng, rng, ok, ok, none, fail, ok}},
		{"more lines than ticks", with(example, crowd), [8]api.Errno{ok, rng, rng, rng, rng, ok, fail, fail}},
		{"the cutting keeps the bound", with(example, keeps), [8]api.Errno{ok, ok, ok, ok, none, ok, ok, ok}},
		{"nothing wrong", with(example), all(ok)},
	} {
		r := callAll(x.a)
		if r.errors != x.want {
			t.Errorf("%s: %v, not %v", x.name, r.errors, x.want)
		}
		if !r.zeroWithErrors() {
			t.Errorf("%s: results with errors: %v", x.name, r)
		}
	}
}

// P1: no argument makes a call panic.
func TestNoArgumentPanics(t *testing.T) {
	far := numbers(math.MinInt, math.MinInt+1, -5001, -21, -20, -1, 0, 1, 2, 3, 7, 20, 21, 50, 51, 60, 61, 5000, 5001, math.MaxInt)
	d := newDice(1)
	pick := func() int { return far[d.IntN(len(far))] }
	list := func(most int) []int {
		var list []int
		for range d.IntN(most + 2) {
			list = append(list, pick())
		}
		return list
	}
	for range 30000 {
		a := exampleArguments()
		if d.IntN(3) == 0 {
			a.s.Step, a.s.Ticks = pick(), pick()
		}
		if d.IntN(3) == 0 {
			a.s.Phases = a.s.Phases[:d.IntN(4)]
			for range d.IntN(7) {
				a.s.Phases = append(a.s.Phases, to(pick(), pick()))
			}
		}
		if d.IntN(3) == 0 {
			a.s.Zones = a.s.Zones[:d.IntN(3)]
			for range d.IntN(3) {
				a.s.Zones = append(a.s.Zones, zone(pick(), to(pick(), pick())))
			}
		}
		if d.IntN(2) == 0 {
			a.t = screw.Truth{Phases: list(8), Wears: list(3)}
		}
		if d.IntN(2) == 0 {
			a.scale = list(10)
			slices.Sort(a.scale)
		}
		if d.IntN(2) == 0 {
			a.cutting = list(10)
			slices.Sort(a.cutting)
		}
		a.tick, a.place, a.bound = pick(), pick(), pick()
		if r := callAll(a); !r.zeroWithErrors() {
			t.Fatalf("%v: %v", a, r)
		}
		screw.ProveCutting(a.s, a.scale, a.cutting, a.bound, pick())
	}
}

// R3: a list without elements is as nil.
func TestEmptyIsNil(t *testing.T) {
	for name, change := range map[string]func(a *arguments, ranges []screw.Range, zones []screw.Zone, list []int){
		"phases":     func(a *arguments, ranges []screw.Range, _ []screw.Zone, _ []int) { a.s.Phases = ranges },
		"zones":      func(a *arguments, _ []screw.Range, zones []screw.Zone, _ []int) { a.s.Zones = zones },
		"the truth":  func(a *arguments, _ []screw.Range, _ []screw.Zone, list []int) { a.t.Phases, a.t.Wears = list, list },
		"a scale":    func(a *arguments, _ []screw.Range, _ []screw.Zone, list []int) { a.scale = list },
		"a cutting":  func(a *arguments, _ []screw.Range, _ []screw.Zone, list []int) { a.cutting = list },
		"both lists": func(a *arguments, _ []screw.Range, _ []screw.Zone, list []int) { a.scale, a.cutting = list, list },
	} {
		none, empty := exampleArguments(), exampleArguments()
		change(&none, nil, nil, nil)
		change(&empty, []screw.Range{}, []screw.Zone{}, []int{})
		if a, b := callAll(none), callAll(empty); !equalResults(a, b) || a.errors == [8]api.Errno{} {
			t.Errorf("%s: %v, %v", name, a, b)
		}
	}
}

// R4, and that a call is again as it was: arguments stay as they are, and what
// is written to results changes no later call.
func TestMemory(t *testing.T) {
	a, x := exampleArguments(), exampleArguments()
	first, again := callAll(a), callAll(a)
	if !equalResults(first, again) || len(first.out)*len(first.right)*len(first.cutting) == 0 {
		t.Errorf("twice the same: %v, %v", first, again)
	}
	for i := range first.out {
		first.out[i] = to(-7, -7)
	}
	for _, list := range [][]int{first.right, first.cutting} {
		list = list[:cap(list)]
		for i := range list {
			list[i] = -7
		}
	}
	if !equalResults(again, callAll(a)) {
		t.Error("results are shared")
	}
	if !slices.Equal(a.s.Phases, x.s.Phases) || !slices.Equal(a.s.Zones, x.s.Zones) ||
		!slices.Equal(a.t.Phases, x.t.Phases) || !slices.Equal(a.t.Wears, x.t.Wears) ||
		!slices.Equal(a.scale, x.scale) || !slices.Equal(a.cutting, x.cutting) {
		t.Errorf("arguments were written to: %v", a)
	}
}
