package bath_test

import (
	"slices"
	"testing"
	"time"

	"meniscus/api"
	"meniscus/bath"
)

// small hands some small series, with all their truths, to a test. Of some of
// them all readings are nearly right, of others hardly any.
func small(t *testing.T, many int, try func(d dice, s bath.Series, all []truth)) {
	t.Helper()
	d := newDice(2)
	for range many {
		s := d.smallSeries(6)
		try(d, s, truths(s))
		if t.Failed() {
			return
		}
	}
}

// large hands some series of any size to a test, with a truth of them.
func large(t *testing.T, many int, try func(d dice, s bath.Series, x truth)) {
	t.Helper()
	d := newDice(3)
	for range many {
		s, x := d.anySeries()
		try(d, s, x)
		if t.Failed() {
			return
		}
	}
}

func mustOffsets(t *testing.T, s bath.Series) []bath.Range {
	t.Helper()
	got, e := bath.Offsets(s)
	if e != api.OK || len(got) != len(s.Offsets) {
		t.Fatalf("Offsets of %v: %v, %v", s, got, e)
	}
	return got
}

func mustHeats(t *testing.T, s bath.Series) []bath.Range {
	t.Helper()
	got, e := bath.Heats(s)
	if e != api.OK || len(got) != len(s.Baths) {
		t.Fatalf("Heats of %v: %v, %v", s, got, e)
	}
	return got
}

func mustDifference(t *testing.T, s bath.Series, first, second int) bath.Range {
	t.Helper()
	got, e := bath.Difference(s, first, second)
	if e != api.OK {
		t.Fatalf("Difference of %v, %d, %d: %v", s, first, second, e)
	}
	return got
}

func mustBlame(t *testing.T, s bath.Series) (fewest []bath.Place, alone []int) {
	t.Helper()
	fewest, alone, e := bath.Blame(s)
	if e != api.OK {
		t.Fatalf("Blame of %v: %v", s, e)
	}
	return fewest, alone
}

func contradicting(s bath.Series) bool {
	_, e := bath.Offsets(s)
	return e == api.ErrFail
}

func has(r bath.Range, n int) bool { return r.Lo <= n && n <= r.Hi }

func within(r, other bath.Range) bool { return has(other, r.Lo) && has(other, r.Hi) }

// narrowed is the series with one range of Offsets in place of its own.
func narrowed(s bath.Series, instrument int, r bath.Range) bath.Series {
	s.Offsets = slices.Clone(s.Offsets)
	s.Offsets[instrument] = r
	return s
}

// heated is the series with one range of heat in place of its own.
func heated(s bath.Series, number int, r bath.Range) bath.Series {
	s.Baths = slices.Clone(s.Baths)
	s.Baths[number].Heat = r
	return s
}

// P5.1: ProveTruth is as defined, for truths and for others.
func TestProveTruthAsDefined(t *testing.T) {
	proved := 0
	small(t, 3000, func(d dice, s bath.Series, all []truth) {
		every := candidates(s)
		x := every[d.IntN(len(every))]
		if len(all) > 0 && d.IntN(2) == 0 {
			x = all[d.IntN(len(all))]
		}
		want := len(wrongIn(s, x)) == 0
		if bath.ProveTruth(s, x.offsets, x.heats) != want {
			t.Errorf("%v, %v: not %v", s, x, want)
		}
		if want {
			proved++
		}
		x.offsets = slices.Clone(x.offsets)
		x.offsets[0] = s.Offsets[0].Hi + 1
		if bath.ProveTruth(s, x.offsets, x.heats) {
			t.Errorf("%v, %v: an offset is too great", s, x)
		}
	})
	if proved < 500 {
		t.Errorf("too few truths: %d", proved)
	}
}

// P5.2, P5.3, and the document's P2: all truths are tried.
func TestBoundsAsDefined(t *testing.T) {
	failed := 0
	small(t, 3000, func(d dice, s bath.Series, all []truth) {
		first, second := d.IntN(len(s.Offsets)), d.IntN(len(s.Offsets))
		if len(all) == 0 {
			failed++
			_, e := bath.Offsets(s)
			_, f := bath.Heats(s)
			_, g := bath.Difference(s, first, second)
			if e != api.ErrFail || f != api.ErrFail || g != api.ErrFail {
				t.Errorf("%v: %v, %v, %v, but there is no truth", s, e, f, g)
			}
			return
		}
		for n, got := range mustOffsets(t, s) {
			if want := boundsOf(all, func(x truth) int { return x.offsets[n] }); got != want {
				t.Errorf("%v: the offset of %d is %v, not %v", s, n, want, got)
			}
		}
		for n, got := range mustHeats(t, s) {
			if want := boundsOf(all, func(x truth) int { return x.heats[n] }); got != want {
				t.Errorf("%v: the heat of %d is %v, not %v", s, n, want, got)
			}
		}
		want := boundsOf(all, func(x truth) int { return x.offsets[first] - x.offsets[second] })
		if got := mustDifference(t, s, first, second); got != want {
			t.Errorf("%v: the difference of %d and %d is %v, not %v", s, first, second, want, got)
		}
	})
	if failed < 300 || failed > 2700 {
		t.Errorf("too few of a kind were tried: %d", failed)
	}
}

// P5.4, P5.12, and the document's P5 and P6: any list is tried.
func TestBlameAsDefined(t *testing.T) {
	blamed, lonely := 0, 0
	small(t, 1500, func(d dice, s bath.Series, all []truth) {
		var ways [][]bath.Place
		for _, x := range candidates(s) {
			ways = append(ways, wrongIn(s, x))
		}
		needNot := func(list []bath.Place) bool {
			return slices.ContainsFunc(ways, func(wrong []bath.Place) bool {
				return !slices.ContainsFunc(wrong, func(at bath.Place) bool { return !slices.Contains(list, at) })
			})
		}
		fewest, alone := mustBlame(t, s)
		every := subsets(places(s))
		if want := every[slices.IndexFunc(every, needNot)]; !slices.Equal(fewest, want) {
			t.Errorf("%v: %v, not %v", s, fewest, want)
		}
		for n := range s.Offsets {
			want := len(all) == 0 && needNot(of(s, n))
			if slices.Contains(alone, n) != want {
				t.Errorf("%v: %d alone can be wrong: not %v", s, n, want)
			}
		}
		if !slices.IsSorted(alone) || len(slices.Compact(slices.Clone(alone))) != len(alone) {
			t.Errorf("%v: %v does not rise", s, alone)
		}
		if len(fewest) > 1 {
			blamed++
		}
		if len(alone) > 0 {
			lonely++
		}
	})
	if blamed < 200 || lonely < 200 {
		t.Errorf("too few of a kind were blamed: %d, %d", blamed, lonely)
	}
}

// P5.12: of series of any size any list of readings is tried that is no longer
// than the fewest.
func TestNoFewer(t *testing.T) {
	d := newDice(4)
	for range 150 {
		s, _ := d.series(d.from(2, 6), d.from(2, 4), d.from(0, 3), 200, d.from(2, 6))
		for len(places(s)) > 12 {
			s = without(s, places(s)[12:])
		}
		fewest, alone := mustBlame(t, s)
		for _, list := range subsets(places(s)) {
			if contradicting(without(s, list)) {
				continue
			}
			if !slices.Equal(list, fewest) {
				t.Errorf("%v: %v, not %v", s, fewest, list)
			}
			break
		}
		for n := range s.Offsets {
			want := len(fewest) > 0 && !contradicting(without(s, of(s, n)))
			if slices.Contains(alone, n) != want {
				t.Errorf("%v: %d alone can be wrong: not %v", s, n, want)
			}
		}
	}
}

// P5.4, P5.12: as many readings as there may be, of which some are far out, each
// of another bath and another instrument. To believe one of these, one of three
// readings has to be left out for each of five pairs of another bath and another
// instrument: no list of four does without it.
func TestBlameOfFarReadings(t *testing.T) {
	d := newDice(9)
	for range 100 {
		s := bath.Series{Offsets: slices.Repeat(ranges(to(-100, 100)), 6), Error: d.IntN(6)}
		out := numbers(-1, -1, -1, -1, -1, -1)
		for number, instrument := range d.Perm(6)[:4] {
			out[(number*5+1)%6] = instrument
		}
		offsets := numbers(-50, -3, 0, 2, 20, 50)
		var want []bath.Place
		for number := range 6 {
			b, heat := in(to(0, 1000)), d.from(300, 700)
			for at, n := range d.Perm(6) {
				b.Reads = append(b.Reads, read(n, heat+offsets[n]+d.from(-s.Error, s.Error)))
				if n == out[number] {
					b.Reads[at].Value += 7*s.Error + d.from(1, 10)
					want = append(want, place(number, at))
				}
			}
			s.Baths = append(s.Baths, b)
		}
		slices.SortFunc(want, comparePlaces)
		if fewest, alone := mustBlame(t, s); !slices.Equal(fewest, want) || len(alone) > 0 {
			t.Fatalf("%v: %v, not %v; %v", s, fewest, want, alone)
		}
	}
}

// P1, P5.4, P5.12: as many readings as there may be, of which hardly any agree.
func TestBlameOfManyReadings(t *testing.T) {
	began := time.Now()
	d := newDice(10)
	for range 3 {
		s := bath.Series{Offsets: slices.Repeat(ranges(to(-100, 100)), api.MaxBathInstruments)}
		for range api.MaxBathBaths {
			b := in(to(0, api.MaxBathHeat))
			for n := range api.MaxBathInstruments {
				b.Reads = append(b.Reads, read(n, d.from(450, 550)))
			}
			s.Baths = append(s.Baths, b)
		}
		fewest, _ := mustBlame(t, s)
		if len(fewest) < 15 || contradicting(without(s, fewest)) {
			t.Errorf("%v: %v", s, fewest)
		}
		for n := range fewest {
			if !contradicting(without(s, slices.Delete(slices.Clone(fewest), n, n+1))) {
				t.Errorf("%v: %v, of which %v can be believed, too", s, fewest, fewest[n])
			}
		}
	}
	if took := time.Since(began); took > time.Minute {
		t.Errorf("it took %v", took)
	}
}

// P5.7
func TestWhateverWasTrue(t *testing.T) {
	large(t, 2000, func(d dice, s bath.Series, x truth) {
		if !bath.ProveTruth(s, x.offsets, x.heats) {
			t.Errorf("%v: %v is a truth", s, x)
		}
		for n, r := range mustOffsets(t, s) {
			if !has(r, x.offsets[n]) {
				t.Errorf("%v: the offset of %d is not in %v", s, n, r)
			}
		}
		for n, r := range mustHeats(t, s) {
			if !has(r, x.heats[n]) {
				t.Errorf("%v: the heat of %d is not in %v", s, n, r)
			}
		}
		first, second := d.IntN(len(s.Offsets)), d.IntN(len(s.Offsets))
		if r := mustDifference(t, s, first, second); !has(r, x.offsets[first]-x.offsets[second]) {
			t.Errorf("%v: the difference of %d and %d is not in %v", s, first, second, r)
		}
		if fewest, alone := mustBlame(t, s); len(fewest) > 0 || len(alone) > 0 {
			t.Errorf("%v: %v, %v", s, fewest, alone)
		}
	})
}

// P5.8
func TestTheEnds(t *testing.T) {
	large(t, 1000, func(d dice, s bath.Series, _ truth) {
		for n, r := range mustOffsets(t, s) {
			for _, end := range []int{r.Lo, r.Hi} {
				if got := mustOffsets(t, narrowed(s, n, to(end, end))); got[n] != to(end, end) {
					t.Errorf("%v: %d can have the offset %d: %v", s, n, end, got)
				}
			}
			for _, beyond := range []int{r.Lo - 1, r.Hi + 1} {
				if has(s.Offsets[n], beyond) && !contradicting(narrowed(s, n, to(beyond, beyond))) {
					t.Errorf("%v: %d can have the offset %d", s, n, beyond)
				}
			}
		}
		for n, r := range mustHeats(t, s) {
			for _, end := range []int{r.Lo, r.Hi} {
				if got := mustHeats(t, heated(s, n, to(end, end))); got[n] != to(end, end) {
					t.Errorf("%v: %d can have the heat %d: %v", s, n, end, got)
				}
			}
			for _, beyond := range []int{r.Lo - 1, r.Hi + 1} {
				if has(s.Baths[n].Heat, beyond) && !contradicting(heated(s, n, to(beyond, beyond))) {
					t.Errorf("%v: %d can have the heat %d", s, n, beyond)
				}
			}
		}
	})
}

// checkNoWider looks whether the stricter series tells no less than the other.
func checkNoWider(t *testing.T, d dice, s, stricter bath.Series) {
	t.Helper()
	wide, narrow := mustOffsets(t, s), mustOffsets(t, stricter)
	wideHeats, narrowHeats := mustHeats(t, s), mustHeats(t, stricter)
	for n := range wide {
		if !within(narrow[n], wide[n]) {
			t.Errorf("%v, %v: the offset of %d: %v, %v", s, stricter, n, wide[n], narrow[n])
		}
	}
	for n := range wideHeats {
		if !within(narrowHeats[n], wideHeats[n]) {
			t.Errorf("%v, %v: the heat of %d: %v, %v", s, stricter, n, wideHeats[n], narrowHeats[n])
		}
	}
	first, second := d.IntN(len(wide)), d.IntN(len(wide))
	if a, b := mustDifference(t, s, first, second), mustDifference(t, stricter, first, second); !within(b, a) {
		t.Errorf("%v, %v: the difference of %d and %d: %v, %v", s, stricter, first, second, a, b)
	}
}

// P5.9
func TestMoreReadings(t *testing.T) {
	lesser := 0
	large(t, 1500, func(d dice, s bath.Series, _ truth) {
		if all := places(s); len(all) > 0 {
			checkNoWider(t, d, without(s, []bath.Place{all[d.IntN(len(all))]}), s)
		}
		exact := s
		exact.Error = d.IntN(s.Error + 1)
		if !contradicting(exact) {
			checkNoWider(t, d, s, exact)
			lesser++
		}
	})
	if lesser < 300 {
		t.Errorf("too few had a lesser Error: %d", lesser)
	}
}

// P5.10
func TestAround(t *testing.T) {
	large(t, 2000, func(d dice, s bath.Series, _ truth) {
		first, second, third := d.IntN(len(s.Offsets)), d.IntN(len(s.Offsets)), d.IntN(len(s.Offsets))
		a, b := mustDifference(t, s, first, second), mustDifference(t, s, second, third)
		if way := mustDifference(t, s, first, third); !within(way, to(a.Lo+b.Lo, a.Hi+b.Hi)) {
			t.Errorf("%v: %v, %v, %v", s, a, b, way)
		}
		if back := mustDifference(t, s, second, first); back != to(-a.Hi, -a.Lo) {
			t.Errorf("%v: %v, %v", s, a, back)
		}
		if same := mustDifference(t, s, first, first); same != to(0, 0) {
			t.Errorf("%v: %v", s, same)
		}
	})
}

// P5.11
func TestInOneBath(t *testing.T) {
	large(t, 1000, func(d dice, s bath.Series, _ truth) {
		for _, b := range s.Baths {
			r, other := b.Reads[d.IntN(len(b.Reads))], b.Reads[d.IntN(len(b.Reads))]
			more := r.Value - other.Value
			if got := mustDifference(t, s, r.Instrument, other.Instrument); !within(got, to(more-2*s.Error, more+2*s.Error)) {
				t.Errorf("%v: %v and %v: %v", s, r, other, got)
			}
		}
	})
}

// shifted is the series with the Values and the Offsets of one instrument more by
// some number.
func shifted(s bath.Series, instrument, more int) bath.Series {
	r := s.Offsets[instrument]
	s = without(narrowed(s, instrument, to(r.Lo+more, r.Hi+more)), nil)
	for _, at := range of(s, instrument) {
		s.Baths[at.Bath].Reads[at.Read].Value += more
	}
	return s
}

// P5.13
func TestShifted(t *testing.T) {
	large(t, 1500, func(d dice, s bath.Series, _ truth) {
		n := d.IntN(len(s.Offsets))
		more := d.from(-api.MaxBathOffset-s.Offsets[n].Lo, api.MaxBathOffset-s.Offsets[n].Hi)
		moved := shifted(s, n, more)
		want := mustOffsets(t, s)
		want[n] = to(want[n].Lo+more, want[n].Hi+more)
		if got := mustOffsets(t, moved); !slices.Equal(got, want) {
			t.Errorf("%v, %v: %v, not %v", s, moved, got, want)
		}
		if got, want := mustHeats(t, moved), mustHeats(t, s); !slices.Equal(got, want) {
			t.Errorf("%v, %v: %v, not %v", s, moved, got, want)
		}
	})
}

// P5.13, and the document's P7: baths, and the readings in them, in another
// order.
func TestAnyOrder(t *testing.T) {
	large(t, 1500, func(d dice, s bath.Series, _ truth) {
		mixed := s
		mixed.Baths = nil
		order := d.Perm(len(s.Baths))
		for _, n := range order {
			b := in(s.Baths[n].Heat, s.Baths[n].Reads...)
			b.Reads = slices.Clone(b.Reads)
			d.Shuffle(len(b.Reads), func(i, j int) { b.Reads[i], b.Reads[j] = b.Reads[j], b.Reads[i] })
			mixed.Baths = append(mixed.Baths, b)
		}
		if a, b := mustOffsets(t, s), mustOffsets(t, mixed); !slices.Equal(a, b) {
			t.Errorf("%v, %v: %v, %v", s, mixed, a, b)
		}
		a, b := mustHeats(t, s), mustHeats(t, mixed)
		for at, n := range order {
			if a[n] != b[at] {
				t.Errorf("%v, %v: %v, %v", s, mixed, a, b)
			}
		}
		first, second := d.IntN(len(s.Offsets)), d.IntN(len(s.Offsets))
		if a, b := mustDifference(t, s, first, second), mustDifference(t, mixed, first, second); a != b {
			t.Errorf("%v, %v: %v, %v", s, mixed, a, b)
		}
	})
}

// P5.5: Known is held against its definition.
func TestKnownAsDefined(t *testing.T) {
	d := newDice(5)
	for range 3000 {
		w := d.smallWorks(6)
		every := dips(w)
		var plan []bath.Dip
		for range d.IntN(7) {
			if len(every) > 0 {
				plan = append(plan, every[d.IntN(len(every))])
			}
		}
		got, e := bath.Known(w, plan)
		if want := knownBy(w, plan); e != api.OK || !slices.Equal(got, want) {
			t.Fatalf("%v, %v: %v, %v, not %v", w, plan, got, e, want)
		}
		if many := d.IntN(7); bath.ProvePlan(w, plan, many) != (len(plan) <= many && rightPlan(w, plan)) {
			t.Fatalf("%v, %v, %d: it is right: %v", w, plan, many, rightPlan(w, plan))
		}
	}
}

// P5.6, P5.14, and the document's P5: any plan is tried.
func TestPlanAsDefined(t *testing.T) {
	d := newDice(6)
	var found [api.MaxBathInstruments]int
	failed := 0
	for range 1000 {
		w := d.smallWorks(5)
		plan, e := bath.Plan(w)
		every := dips(w)
		fewer := len(plan)
		switch e {
		case api.OK:
			found[len(plan)]++
			if !rightPlan(w, plan) || !bath.ProvePlan(w, plan, len(plan)) {
				t.Errorf("%v: %v", w, plan)
			}
		case api.ErrFail:
			failed++
			fewer = 5
		default:
			t.Errorf("%v: %v", w, e)
		}
		for many := range fewer {
			if some(w, nil, every, many) {
				t.Errorf("%v: %v, %v, but %d dips will do", w, plan, e, many)
			}
		}
	}
	if slices.Min(found[:4]) < 20 || failed < 20 {
		t.Errorf("too few of a kind were tried: %v, %d", found, failed)
	}
}

// P5.14: easier works need no more dips.
func TestEasierPlans(t *testing.T) {
	d := newDice(7)
	easier := 0
	for range 2000 {
		w := d.smallWorks(6)
		plan, e := bath.Plan(w)
		if e != api.OK {
			continue
		}
		wider := w
		wider.Ranges = slices.Clone(w.Ranges)
		n := d.IntN(len(w.Ranges))
		wider.Ranges[n] = to(d.from(0, w.Ranges[n].Lo), d.from(w.Ranges[n].Hi, api.MaxBathHeat))
		room, steps := w, w
		room.Room = d.from(w.Room, api.MaxBathInstruments)
		steps.Steps = d.from(w.Steps, api.MaxBathSteps)
		for _, x := range []bath.Works{wider, room, steps} {
			fewer, e := bath.Plan(x)
			if e != api.OK || len(fewer) > len(plan) || !bath.ProvePlan(x, fewer, len(plan)) {
				t.Fatalf("%v: %v; %v: %v, %v", w, plan, x, fewer, e)
			}
			if len(fewer) < len(plan) {
				easier++
			}
		}
	}
	if easier < 50 {
		t.Errorf("too few were easier: %d", easier)
	}
}

// P5.15: the dips of plans are the baths of series.
func TestSteps(t *testing.T) {
	d := newDice(8)
	checked := 0
	for range 2000 {
		w := d.smallWorks(6)
		plan, e := bath.Plan(w)
		if e != api.OK || len(plan) > api.MaxBathBaths {
			continue
		}
		s := bath.Series{Error: d.IntN(api.MaxBathError + 1), Offsets: slices.Repeat(ranges(to(-100, 100)), len(w.Ranges))}
		s.Offsets[0] = d.part(-5, 5, 3)
		offsets := numbers(d.of(s.Offsets[0]))
		for range len(w.Ranges) - 1 {
			offsets = append(offsets, d.from(-100, 100))
		}
		for _, dip := range plan {
			b := in(to(0, api.MaxBathHeat))
			for _, n := range dip.Instruments {
				b.Reads = append(b.Reads, read(n, dip.Heat+offsets[n]+d.from(-s.Error, s.Error)))
			}
			s.Baths = append(s.Baths, b)
		}
		got := mustOffsets(t, s)
		for n, steps := range knownBy(w, plan) {
			if wider := (got[n].Hi - got[n].Lo) - (got[0].Hi - got[0].Lo); wider > 4*s.Error*steps {
				t.Errorf("%v, %v: %d is known by %d steps, and wider by %d", s, plan, n, steps, wider)
			}
			if steps > 1 {
				checked++
			}
		}
	}
	if checked < 100 {
		t.Errorf("too few are known by more than one step: %d", checked)
	}
}
