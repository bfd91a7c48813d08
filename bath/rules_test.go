package bath_test

import (
	"math"
	"slices"
	"testing"

	"meniscus/api"
	"meniscus/bath"
)

// arguments are those of all calls.
type arguments struct {
	s             bath.Series
	first, second int
	w             bath.Works
	plan          []bath.Dip
}

// exampleArguments leave each call without an error.
func exampleArguments() arguments {
	return arguments{s: example(), first: 2, second: 1, w: exampleWorks(3), plan: []bath.Dip{dip(90, 0, 1, 3), dip(150, 1, 2)}}
}

// results are what each call that can have an error returns.
type results struct {
	offsets, heats []bath.Range
	difference     bath.Range
	fewest         []bath.Place
	alone, known   []int
	plan           []bath.Dip
	errors         [8]api.Errno
}

// The places of the calls in results.errors: the first five are those with a
// series, the others those with a works.
const (
	ofCheckSeries = iota
	ofOffsets
	ofHeats
	ofDifference
	ofBlame
	ofCheckWorks
	ofKnown
	ofPlan
)

func callAll(a arguments) results {
	var r results
	r.errors[ofCheckSeries] = bath.CheckSeries(a.s)
	r.offsets, r.errors[ofOffsets] = bath.Offsets(a.s)
	r.heats, r.errors[ofHeats] = bath.Heats(a.s)
	r.difference, r.errors[ofDifference] = bath.Difference(a.s, a.first, a.second)
	r.fewest, r.alone, r.errors[ofBlame] = bath.Blame(a.s)
	r.errors[ofCheckWorks] = bath.CheckWorks(a.w)
	r.known, r.errors[ofKnown] = bath.Known(a.w, a.plan)
	r.plan, r.errors[ofPlan] = bath.Plan(a.w)
	return r
}

// zeroWithErrors reports whether each result that comes with an error is zero.
func (r results) zeroWithErrors() bool {
	zero := [8]bool{
		true, len(r.offsets) == 0, len(r.heats) == 0, r.difference == bath.Range{}, len(r.fewest) == 0 && len(r.alone) == 0,
		true, len(r.known) == 0, len(r.plan) == 0,
	}
	for call, e := range r.errors {
		if e != api.OK && !zero[call] {
			return false
		}
	}
	return true
}

func equalDips(a, b bath.Dip) bool {
	return a.Heat == b.Heat && slices.Equal(a.Instruments, b.Instruments)
}

func equalBaths(a, b bath.Bath) bool { return a.Heat == b.Heat && slices.Equal(a.Reads, b.Reads) }

func equalResults(a, b results) bool {
	return slices.Equal(a.offsets, b.offsets) && slices.Equal(a.heats, b.heats) && a.difference == b.difference &&
		slices.Equal(a.fewest, b.fewest) && slices.Equal(a.alone, b.alone) && slices.Equal(a.known, b.known) &&
		slices.EqualFunc(a.plan, b.plan, equalDips) && a.errors == b.errors
}

// R1 and R2, with the chapter's table of errors: each case has what its name
// says, and all that would come later.
func TestWhichErrorComesFirst(t *testing.T) {
	const ok, arg, rng, limit, fail = api.OK, api.ErrArg, api.ErrRange, api.ErrLimit, api.ErrFail
	series := func(e, difference, blame api.Errno) [8]api.Errno {
		return [8]api.Errno{blame, e, e, difference, blame, ok, ok, ok}
	}
	works := func(known, plan, check api.Errno) [8]api.Errno {
		return [8]api.Errno{ok, ok, ok, ok, ok, check, known, plan}
	}
	noSeries := bath.Series{Offsets: ranges(to(1, 0)), Error: 21}
	noWorks := bath.Works{Ranges: ranges(to(1, 0))}
	noPlan := []bath.Dip{dip(-1)}
	for _, x := range []struct {
		name   string
		change func(a *arguments)
		want   [8]api.Errno
	}{
		{"nothing wrong", func(a *arguments) {}, series(ok, ok, ok)},
		{"too many instruments", func(a *arguments) { a.s, a.first = noSeries, 7; a.s.Offsets = make([]bath.Range, 7) }, series(limit, limit, limit)},
		{"too many baths", func(a *arguments) { a.s, a.first = noSeries, 7; a.s.Baths = make([]bath.Bath, 7) }, series(limit, limit, limit)},
		{"no series", func(a *arguments) { a.s, a.first = noSeries, 7 }, series(arg, arg, arg)},
		{"no such first instrument", func(a *arguments) { a.s, a.first = example(wrong()), 3 }, series(fail, rng, ok)},
		{"no such second instrument", func(a *arguments) { a.s, a.second = example(wrong()), -1 }, series(fail, rng, ok)},
		{"it contradicts itself", func(a *arguments) { a.s = example(wrong()) }, series(fail, fail, ok)},
		{"too many instruments of a works", func(a *arguments) { a.w, a.plan = noWorks, noPlan; a.w.Ranges = make([]bath.Range, 7) }, works(limit, limit, limit)},
		{"no works", func(a *arguments) { a.w, a.plan = noWorks, noPlan }, works(arg, arg, arg)},
		{"no plan", func(a *arguments) { a.w.Ranges[2], a.plan = to(201, 300), noPlan }, works(rng, fail, ok)},
		{"no plan is right", func(a *arguments) { a.w.Ranges[2], a.plan = to(201, 300), nil }, works(ok, fail, ok)},
	} {
		a := exampleArguments()
		x.change(&a)
		r := callAll(a)
		if r.errors != x.want {
			t.Errorf("%s: %v, not %v", x.name, r.errors, x.want)
		}
		if !r.zeroWithErrors() {
			t.Errorf("%s: results with errors: %v", x.name, r)
		}
	}
}

// P1: no argument makes a call panic.
func TestNoArgumentPanics(t *testing.T) {
	far := numbers(math.MinInt, math.MinInt+1, -1001, -101, -1, 0, 1, 2, 3, 5, 6, 20, 21, 100, 101, 1000, 1001, 2001, math.MaxInt)
	d := newDice(1)
	pick := func() int { return far[d.IntN(len(far))] }
	list := func(most int) []int {
		var list []int
		for range d.IntN(most + 2) {
			list = append(list, pick())
		}
		return list
	}
	some := func(most int) []bath.Range {
		var list []bath.Range
		for range d.IntN(most + 2) {
			list = append(list, to(pick(), pick()))
		}
		return list
	}
	for range 30000 {
		a := exampleArguments()
		if d.IntN(3) == 0 {
			a.s.Offsets, a.s.Error = some(6), pick()
		}
		if d.IntN(3) == 0 {
			b := in(to(pick(), pick()))
			for range d.IntN(8) {
				b.Reads = append(b.Reads, read(pick(), pick()))
			}
			a.s.Baths = append(a.s.Baths, slices.Repeat([]bath.Bath{b}, d.IntN(6))...)
		}
		if d.IntN(3) == 0 {
			a.w = bath.Works{Ranges: some(6), Room: pick(), Steps: pick()}
		}
		if d.IntN(3) > 0 {
			a.plan = append(a.plan, dip(pick(), list(6)...))
		}
		a.first, a.second = pick(), pick()
		if r := callAll(a); !r.zeroWithErrors() {
			t.Fatalf("%v: %v", a, r)
		}
		bath.ProveTruth(a.s, list(6), list(6))
		bath.ProvePlan(a.w, a.plan, pick())
	}
}

// R3: a list without elements is as nil.
func TestEmptyIsNil(t *testing.T) {
	for name, change := range map[string]func(a *arguments, offsets []bath.Range, baths []bath.Bath, reads []bath.Reading, dips []bath.Dip, list []int){
		"instruments": func(a *arguments, offsets []bath.Range, _ []bath.Bath, _ []bath.Reading, _ []bath.Dip, _ []int) {
			a.s.Offsets, a.w.Ranges = offsets, offsets
		},
		"baths": func(a *arguments, _ []bath.Range, baths []bath.Bath, _ []bath.Reading, _ []bath.Dip, _ []int) {
			a.s.Baths = baths
		},
		"readings": func(a *arguments, _ []bath.Range, _ []bath.Bath, reads []bath.Reading, _ []bath.Dip, _ []int) {
			a.s.Baths[1].Reads = reads
		},
		"a plan": func(a *arguments, _ []bath.Range, _ []bath.Bath, _ []bath.Reading, dips []bath.Dip, _ []int) {
			a.plan = dips
		},
		"a dip": func(a *arguments, _ []bath.Range, _ []bath.Bath, _ []bath.Reading, _ []bath.Dip, list []int) {
			a.plan[0].Instruments = list
		},
	} {
		none, empty := exampleArguments(), exampleArguments()
		change(&none, nil, nil, nil, nil, nil)
		change(&empty, []bath.Range{}, []bath.Bath{}, []bath.Reading{}, []bath.Dip{}, []int{})
		if a, b := callAll(none), callAll(empty); !equalResults(a, b) || equalResults(a, callAll(exampleArguments())) {
			t.Errorf("%s: %v, %v", name, a, b)
		}
	}
	s := bath.Series{Offsets: ranges(to(0, 0))}
	if !bath.ProveTruth(s, numbers(0), nil) || !bath.ProveTruth(s, numbers(0), []int{}) {
		t.Error("heats that are empty are not as nil")
	}
	if !bath.ProvePlan(alike(1, 2, 1), nil, 0) || !bath.ProvePlan(alike(1, 2, 1), []bath.Dip{}, 0) {
		t.Error("a plan that is empty is not as nil")
	}
}

// R4, and that a call is again as it was: arguments stay as they are, and what
// is written to results changes no later call, and no other result.
func TestMemory(t *testing.T) {
	a, x := exampleArguments(), exampleArguments()
	a.s, x.s = example(wrong()), example(wrong())
	truths, heats := numbers(0, 3, 1), numbers(200, 249, 150)
	for _, s := range []bath.Series{example(), a.s} {
		a.s = s
		first, again := callAll(a), callAll(a)
		if !equalResults(first, again) {
			t.Errorf("twice the same: %v, %v", first, again)
		}
		spoil(t, first)
		if !equalResults(again, callAll(a)) {
			t.Error("results are shared")
		}
	}
	bath.ProveTruth(a.s, truths, heats)
	bath.ProvePlan(a.w, a.plan, 2)
	if !slices.Equal(truths, numbers(0, 3, 1)) || !slices.Equal(heats, numbers(200, 249, 150)) {
		t.Errorf("a truth was written to: %v, %v", truths, heats)
	}
	if !slices.Equal(a.s.Offsets, x.s.Offsets) || !slices.EqualFunc(a.s.Baths, x.s.Baths, equalBaths) ||
		!slices.Equal(a.w.Ranges, x.w.Ranges) || !slices.EqualFunc(a.plan, x.plan, equalDips) {
		t.Errorf("arguments were written to: %v", a)
	}
}

// spoil writes to all lists of the results, up to where their memory ends, and
// looks whether others are written to with them.
func spoil(t *testing.T, r results) {
	t.Helper()
	for _, list := range [][]bath.Range{r.offsets, r.heats} {
		for i := range list[:cap(list)] {
			list[:cap(list)][i] = to(-7, -7)
		}
	}
	for i := range r.fewest {
		r.fewest[i] = place(-7, -7)
	}
	for i, d := range r.plan {
		for j := range d.Instruments[:cap(d.Instruments)] {
			if d.Instruments[:cap(d.Instruments)][j] == -7 {
				t.Error("two dips share memory")
			}
			d.Instruments[:cap(d.Instruments)][j] = -7
		}
		r.plan[i].Heat = -7
	}
	for _, list := range [][]int{r.alone, r.known} {
		for i := range list[:cap(list)] {
			list[:cap(list)][i] = -7
		}
	}
}
