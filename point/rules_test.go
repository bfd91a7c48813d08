package point_test

import (
	"math"
	"slices"
	"testing"

	"meniscus/api"
	"meniscus/point"
)

// arguments are those of all calls together: Heights, Convert and Corrected take
// the first scale, Convert the last one, too.
type arguments struct {
	l                   []point.Scale
	table               []point.Step
	pressures, readings point.Range
	diary               []point.Entry
}

// results are what each call that can have an error returns.
type results struct {
	ranges       [5]point.Range
	kinds, wrong []int
	scale        int
	errors       [7]api.Errno
}

// The places of the calls in results.ranges and results.errors.
const (
	ofHeights = iota
	ofConvert
	ofThrough
	ofBoils
	ofCorrected
	ofKinds
	ofWrong
)

func callAll(a arguments) results {
	var r results
	var first, last point.Scale
	if len(a.l) > 0 {
		first, last = a.l[0], a.l[len(a.l)-1]
	}
	r.ranges[ofHeights], r.errors[ofHeights] = point.Heights(first, a.readings)
	r.ranges[ofConvert], r.errors[ofConvert] = point.Convert(first, last, a.readings)
	r.ranges[ofThrough], r.errors[ofThrough] = point.Through(a.l, a.readings)
	r.ranges[ofBoils], r.errors[ofBoils] = point.Boils(a.table, a.pressures)
	r.ranges[ofCorrected], r.errors[ofCorrected] = point.Corrected(first, a.table, a.pressures, a.readings)
	r.kinds, r.errors[ofKinds] = point.Kinds(a.l, a.diary)
	r.scale, r.wrong, r.errors[ofWrong] = point.Wrong(a.l, a.diary)
	return r
}

// zeroWithErrors reports whether each result that comes with an error is zero.
func (r results) zeroWithErrors() bool {
	for call, told := range r.ranges {
		if r.errors[call] != api.OK && told != to(0, 0) {
			return false
		}
	}
	return (r.errors[ofKinds] == api.OK || len(r.kinds) == 0) &&
		(r.errors[ofWrong] == api.OK || r.scale == 0 && len(r.wrong) == 0)
}

func equalResults(a, b results) bool {
	return a.ranges == b.ranges && slices.Equal(a.kinds, b.kinds) && slices.Equal(a.wrong, b.wrong) &&
		a.scale == b.scale && a.errors == b.errors
}

func exampleArguments() arguments {
	return arguments{
		l:         exampleScales(),
		table:     exampleTable(),
		pressures: to(750, 770),
		readings:  to(20, 20),
		diary:     append(exampleDiary(), entry(10, 400, 410)),
	}
}

// R1 and R2, with the chapter's table of errors: each case has what its name
// says, and all that would come later.
func TestWhichErrorComesFirst(t *testing.T) {
	const (
		arg, rng, limit = api.ErrArg, api.ErrRange, api.ErrLimit
		none, bound, ok = api.ErrNone, api.ErrBound, api.OK
	)
	far := to(1000000, 1000000)
	noScales, noSteps, noEntries := make([]point.Scale, 9), make([]point.Step, 9), slices.Repeat([]point.Entry{entry(0, 1, 0)}, 13)
	badLast := append(exampleScales(), scale(1, 1))
	for _, x := range []struct {
		name string
		a    arguments
		want [7]api.Errno
	}{
		{"too many of all", arguments{noScales, noSteps, to(1, 0), to(1, 0), noEntries}, [7]api.Errno{arg, arg, limit, limit, limit, limit, limit}},
		{"too many scales", arguments{noScales, noSteps[:1], to(1, 0), to(1, 0), noEntries[:1]}, [7]api.Errno{arg, arg, limit, arg, arg, limit, limit}},
		{"too many steps and entries", arguments{noScales[:1], noSteps, to(1, 0), to(1, 0), noEntries}, [7]api.Errno{arg, arg, arg, limit, limit, limit, limit}},
		{"too many steps of a good scale", arguments{exampleScales(), noSteps, to(1, 0), to(1, 0), noEntries}, [7]api.Errno{rng, rng, rng, limit, limit, limit, limit}},
		{"no scale, no table", arguments{noScales[:1], noSteps[:8], to(1, 0), to(1, 0), noEntries[:12]}, [7]api.Errno{arg, arg, arg, arg, arg, arg, arg}},
		{"the last scale is none", arguments{badLast, exampleTable(), to(1, 0), to(1, 0), noEntries[:1]}, [7]api.Errno{rng, arg, arg, rng, rng, arg, arg}},
		{"no table", arguments{exampleScales(), noSteps[:8], to(1, 0), to(1, 0), noEntries[:1]}, [7]api.Errno{rng, rng, rng, arg, arg, rng, rng}},
		{"no scale with a table", arguments{noScales[:1], exampleTable(), to(1, 0), to(1, 0), noEntries[:1]}, [7]api.Errno{arg, arg, arg, rng, arg, arg, arg}},
		{"no scales at all", arguments{nil, exampleTable(), to(760, 760), to(1, 0), noEntries[:1]}, [7]api.Errno{arg, arg, arg, ok, arg, rng, rng}},
		{"no scales at all, all else being good", arguments{nil, exampleTable(), to(760, 760), to(0, 0), exampleDiary()}, [7]api.Errno{arg, arg, arg, ok, arg, ok, none}},
		{"nothing in range", arguments{exampleScales(), exampleTable(), to(1, 0), to(1, 0), noEntries[:12]}, [7]api.Errno{rng, rng, rng, rng, rng, rng, rng}},
		{"readings beyond all bounds", arguments{exampleScales(), exampleTable(), to(760, 760), higher(far, 1), nil}, [7]api.Errno{rng, rng, rng, ok, rng, ok, ok}},
		{"pressures out of range", arguments{exampleScales(), exampleTable(), to(719, 760), to(0, 0), nil}, [7]api.Errno{ok, ok, ok, rng, rng, ok, ok}},
		{"readings that stand beyond the bounds", arguments{exampleScales(), exampleTable(), to(760, 760), far, nil}, [7]api.Errno{ok, bound, bound, ok, ok, ok, ok}},
		{"nothing wrong", exampleArguments(), [7]api.Errno{}},
	} {
		r := callAll(x.a)
		if r.errors != x.want {
			t.Errorf("%s: %v, not %v", x.name, r.errors, x.want)
		}
		if !r.zeroWithErrors() {
			t.Errorf("%s: results with errors: %v", x.name, r)
		}
	}
}

// P1: no argument makes a call panic.
func TestNoArgumentPanics(t *testing.T) {
	numbers := []int{math.MinInt, math.MinInt + 1, -1000001, -1000000, -1001, -1000, -1, 0, 1, 2, 3, 100, 1000, 1001, 2000, 2001, 1000000, 1000001, math.MaxInt}
	d := newDice(2)
	pick := func() int { return numbers[d.IntN(len(numbers))] }
	for range 50000 {
		a := exampleArguments()
		if d.IntN(2) == 0 {
			a.l = a.l[:d.IntN(5)]
			for range d.IntN(7) {
				a.l = append(a.l, scale(pick(), pick()))
			}
		}
		if d.IntN(2) == 0 {
			a.table = a.table[:d.IntN(4)]
			for range d.IntN(8) {
				a.table = append(a.table, steps(pick(), pick())...)
			}
		}
		if d.IntN(2) == 0 {
			a.diary = a.diary[:d.IntN(4)]
			for range d.IntN(12) {
				a.diary = append(a.diary, entry(pick(), pick(), pick()))
			}
		}
		if d.IntN(2) == 0 {
			a.pressures = to(pick(), pick())
		}
		if d.IntN(2) == 0 {
			a.readings = to(pick(), pick())
		}
		point.CheckScale(scale(pick(), pick()))
		if r := callAll(a); !r.zeroWithErrors() {
			t.Fatalf("%v: %v", a, r)
		}
	}
}

// R3: a list without elements is as nil.
func TestEmptyIsNil(t *testing.T) {
	none, empty := exampleArguments(), exampleArguments()
	none.l, none.table, none.diary = nil, nil, nil
	empty.l, empty.table, empty.diary = []point.Scale{}, []point.Step{}, []point.Entry{}
	if a, b := callAll(none), callAll(empty); !equalResults(a, b) {
		t.Errorf("%v, %v", a, b)
	}
	none.l, empty.l = exampleScales(), exampleScales()
	if a, b := callAll(none), callAll(empty); !equalResults(a, b) || len(a.kinds) != 4 || len(a.wrong) != 0 {
		t.Errorf("%v, %v", a, b)
	}
}

// R4, and that a call is again as it was: arguments stay as they are, and what
// is written to results changes no later call.
func TestMemory(t *testing.T) {
	for _, entries := range []int{2, 3} { // of two one scale explains all; of three one is wrong
		a, x := exampleArguments(), exampleArguments()
		a.diary, x.diary = a.diary[:entries], x.diary[:entries]
		first, again := callAll(a), callAll(a)
		if !equalResults(first, again) || len(first.kinds)+len(first.wrong) != 1 {
			t.Errorf("twice the same: %v, %v", first, again)
		}
		for _, list := range [][]int{first.kinds, first.wrong} {
			list = list[:cap(list)]
			for i := range list {
				list[i] = -7
			}
		}
		if !equalResults(again, callAll(a)) {
			t.Error("results are shared")
		}
		if !slices.Equal(a.l, x.l) || !slices.Equal(a.table, x.table) || !slices.Equal(a.diary, x.diary) {
			t.Errorf("arguments were written to: %v", a)
		}
	}
}
