package stem_test

import (
	"slices"
	"testing"

	"meniscus/api"
	"meniscus/glass"
	"meniscus/stem"
)

// scenes hands some scenes of this size to a test.
func scenes(t *testing.T, many int, l limits, try func(d dice, s scene)) {
	t.Helper()
	d := newDice(uint64(many))
	for range many {
		try(d, d.scene(l))
		if t.Failed() {
			return
		}
	}
}

// small hands some scenes with few truths, and a reading of each, to a test.
func small(t *testing.T, many int, try func(d dice, s scene, r stem.Reading)) {
	t.Helper()
	scenes(t, many, smallLimits(), func(d dice, s scene) { try(d, s, d.reading(s, smallLimits())) })
}

// large hands some scenes of any size, and a reading of each, to a test.
func large(t *testing.T, many int, try func(d dice, s scene, r stem.Reading)) {
	t.Helper()
	scenes(t, many, anyLimits(), func(d dice, s scene) { try(d, s, d.reading(s, anyLimits())) })
}

// bath is so many readings of one day, that all were of one temperature in one
// truth: they are right, but that some are wrong by as much as is told.
func (d dice) bath(s scene, l limits, many, wrong int) (list []stem.Reading, degrees int) {
	day, degrees := d.IntN(len(s.zeros)), d.from(-l.shown/2, l.shown/2)
	held := heldIn(d.truth(s, stem.Reading{}, 0))
	for len(list) < many {
		r := d.reading(s, l)
		r.Day = day
		x := d.truth(s, r, s.zeros[day])
		x.K, x.Lag, x.Squeeze = held.K, held.Lag, held.Squeeze
		if r, ok := shows(r, x, degrees); ok {
			r.Shown += d.from(-wrong, wrong)
			list = append(list, r)
		}
	}
	return list, degrees
}

func mustCorrect(t *testing.T, s scene, r stem.Reading) glass.Range {
	t.Helper()
	got, e := stem.Correct(s.tube, s.history, s.ices, r)
	if e != api.OK {
		t.Fatalf("Correct of %v, %v: %v", s, r, e)
	}
	return got
}

func mustSame(t *testing.T, s scene, l []stem.Reading) glass.Range {
	t.Helper()
	got, e := stem.Same(s.tube, s.history, s.ices, l)
	if e != api.OK {
		t.Fatalf("Same of %v, %v: %v", s, l, e)
	}
	return got
}

func mustPlay(t *testing.T, s scene, r stem.Reading, x stem.Truth) int {
	t.Helper()
	got, e := stem.Play(s.tube, r, x)
	if e != api.OK {
		t.Fatalf("Play of %v, %v, %v: %v", s, r, x, e)
	}
	return got
}

func has(r glass.Range, n int) bool { return r.Lo <= n && n <= r.Hi }

func within(r, other glass.Range) bool { return has(other, r.Lo) && has(other, r.Hi) }

// P6.1, for tubes and readings of any size.
func TestPlayAsDefined(t *testing.T) {
	large(t, 2000, func(d dice, s scene, r stem.Reading) {
		x := d.truth(s, r, d.from(-api.MaxGlassZero, api.MaxGlassZero))
		if got := mustPlay(t, s, r, x); got != temperature(r, x) {
			t.Errorf("%v, %v, %v: %d, not %d", s.tube, r, x, got, temperature(r, x))
		}
	})
}

// P6.2, P6.7, and the document's P2: all truths are tried.
func TestCorrectAsDefined(t *testing.T) {
	small(t, 1500, func(d dice, s scene, r stem.Reading) {
		want := boundsOf(temperatures(s, r))
		if got := mustCorrect(t, s, r); got != want {
			t.Errorf("%v, %v: %v, not %v", s, r, got, want)
		}
		most := max(0, want.Hi-want.Lo+d.from(-2, 2))
		got, e := stem.Accept(s.tube, s.history, s.ices, r, most)
		if want.Hi-want.Lo <= most && (got != want || e != api.OK) || want.Hi-want.Lo > most && (got != to(0, 0) || e != api.ErrBound) {
			t.Errorf("%v, %v, accepted for %d: %v, %v, but it is %v", s, r, most, got, e, want)
		}
	})
}

// P6.3 and P6.13: all numbers are tried.
func TestBareAsDefined(t *testing.T) {
	none, uneven := 0, 0
	try := func(s scene, r stem.Reading, most int) {
		var sure []int
		for bare := range api.MaxStemBare + 1 {
			r.Bare = bare
			got, e := stem.Accept(s.tube, s.history, s.ices, r, most)
			if e == api.OK && got.Hi-got.Lo <= most {
				sure = append(sure, bare)
			} else if e != api.ErrBound {
				t.Fatalf("%v, %v, accepted for %d: %v, %v", s, r, most, got, e)
			}
		}
		want, e := 0, api.ErrNone
		if len(sure) > 0 {
			want, e = sure[len(sure)-1], api.OK
			if want != len(sure)-1 {
				uneven++
			}
		} else {
			none++
		}
		r.Bare = most % (api.MaxStemBare + 1)
		if got, f := stem.Bare(s.tube, s.history, s.ices, r, most); got != want || f != e {
			t.Errorf("%v, %v, for %d: %d, %v, not %d, %v", s, r, most, got, f, want, e)
		}
	}
	small(t, 300, func(d dice, s scene, r stem.Reading) { try(s, r, d.from(0, 30)) })
	scenes(t, 50, anyLimits(), func(d dice, s scene) { try(s, d.reading(s, anyLimits()), d.from(0, 300)) })
	if none < 20 || uneven < 20 {
		t.Errorf("too few of a kind were tried: %d, %d", none, uneven)
	}
}

// P6.4: all ices are tried, those with the least Error first.
func TestIceOfAsDefined(t *testing.T) {
	found, missing := 0, 0
	small(t, 400, func(d dice, s scene, r stem.Reading) {
		r.Shown = d.from(-2030, 2030)
		if d.IntN(2) == 0 {
			r.Shown = (1 - 2*d.IntN(2)) * d.from(1970, 2030)
		}
		var list []int
		for _, x := range truths(s.tube, r) {
			list = append(list, temperature(r, x)+x.Zero)
		}
		want, e := leastIce(r.Day, boundsOf(list))
		if e == api.OK {
			found++
		} else {
			missing++
		}
		if got, f := stem.IceOf(s.tube, r); got != want || f != e {
			t.Errorf("%v, %v: %v, %v, not %v, %v", s.tube, r, got, f, want, e)
		}
	})
	if found < 50 || missing < 20 {
		t.Errorf("too few of a kind were tried: %d, %d", found, missing)
	}
}

// leastIce is the ice that has all of these zeros.
func leastIce(day int, all glass.Range) (glass.Ice, api.Errno) {
	for e := range api.MaxGlassError + 1 {
		for zero := -api.MaxGlassZero; zero <= api.MaxGlassZero; zero++ {
			if within(all, to(zero-e, zero+e)) {
				return ice(day, zero, e), api.OK
			}
		}
	}
	return ice(0, 0, 0), api.ErrBound
}

// P6.5, and the document's P2: all truths are tried, of readings that fit, and of
// others.
func TestSameAsDefined(t *testing.T) {
	failed, gaps := 0, 0
	scenes(t, 700, smallLimits(), func(d dice, s scene) {
		l := smallLimits()
		l.errors = d.IntN(2)
		list, _ := d.bath(s, l, d.from(1, 4), d.IntN(4))
		got, e := stem.Same(s.tube, s.history, s.ices, list)
		all := together(s, list)
		if len(all) == 0 {
			failed++
			if got != to(0, 0) || e != api.ErrFail {
				t.Errorf("%v, %v: %v, %v, but there is no truth", s, list, got, e)
			}
			return
		}
		want := boundsOf(all)
		if got != want || e != api.OK {
			t.Errorf("%v, %v: %v, %v, not %v", s, list, got, e, want)
		}
		slices.Sort(all)
		if len(slices.Compact(all)) < want.Hi-want.Lo+1 {
			gaps++
		}
	})
	if failed < 100 || failed > 600 || gaps < 10 {
		t.Errorf("too few of a kind were tried: %d, %d", failed, gaps)
	}
}

// P6.6 and P6.7 for tubes and readings of any size.
func TestWhateverItIs(t *testing.T) {
	large(t, 300, func(d dice, s scene, r stem.Reading) {
		got := mustCorrect(t, s, r)
		zeros := zerosThatCanBe(s, r.Day)
		for range 20 {
			x := d.truth(s, r, zeros[d.IntN(len(zeros))])
			if degrees := mustPlay(t, s, r, x); !has(got, degrees) {
				t.Errorf("%v, %v: %v, but %d in %v", s, r, got, degrees, x)
			}
		}
		var ends []int
		for _, x := range corners(s, r) {
			ends = append(ends, mustPlay(t, s, r, x))
		}
		if got != boundsOf(ends) {
			t.Errorf("%v, %v: %v, but the ends are %v", s, r, got, boundsOf(ends))
		}
	})
}

// P6.8: each of the parts is nothing if one of its factors is.
func TestParts(t *testing.T) {
	large(t, 300, func(d dice, s scene, r stem.Reading) {
		zeros := zerosThatCanBe(s, r.Day)
		want := to(r.Shown-r.Error-slices.Max(zeros), r.Shown+r.Error-slices.Min(zeros))
		if d.IntN(2) == 0 {
			r.Bare = 0
		} else {
			s.tube.K = to(0, 0)
		}
		if d.IntN(2) == 0 {
			r.Rate = to(0, 0)
		} else {
			s.tube.Lag = to(0, 0)
		}
		if d.IntN(2) == 0 {
			r.Deep = 0
		} else {
			s.tube.Squeeze = to(0, 0)
		}
		if got := mustCorrect(t, s, r); got != want {
			t.Errorf("%v, %v: %v, not %v", s, r, got, want)
		}
	})
}

// narrower is the scene and the readings with one thing that is known better.
func (d dice) narrower(s scene, list []stem.Reading) (scene, []stem.Reading) {
	list = slices.Clone(list)
	r := &list[d.IntN(len(list))]
	inside := func(r glass.Range) glass.Range { return d.part(r.Lo, r.Hi, 1000) }
	switch d.IntN(7) {
	case 0:
		s.tube.K = inside(s.tube.K)
	case 1:
		s.tube.Lag = inside(s.tube.Lag)
	case 2:
		s.tube.Squeeze = inside(s.tube.Squeeze)
	case 3:
		r.Air = inside(r.Air)
	case 4:
		r.Rate = inside(r.Rate)
	case 5:
		r.Error = d.IntN(r.Error + 1)
	case 6:
		more := d.ice(s)
		more.Zero += d.IntN(2) * d.from(-5, 5)
		s.ices = append(slices.Clone(s.ices), more)
	}
	return s, list
}

// P6.9, for one reading and for several of one bath.
func TestSurer(t *testing.T) {
	narrowed := 0
	scenes(t, 400, anyLimits(), func(d dice, s scene) {
		list, _ := d.bath(s, anyLimits(), d.from(1, api.MaxStemReadings), 0)
		other, others := d.narrower(s, list)
		for n := range list {
			wide := mustCorrect(t, s, list[n])
			got, e := stem.Correct(other.tube, other.history, other.ices, others[n])
			if e != api.OK && e != api.ErrFail || e == api.OK && !within(got, wide) {
				t.Errorf("%v, %v: %v, but with %v, %v: %v, %v", s, list[n], wide, other, others[n], got, e)
			}
			if _, f := glass.Zeros(other.tube.Glass, other.history, other.ices); e != f {
				t.Errorf("%v, %v: %v, but the ices: %v", other, others[n], e, f)
			}
		}
		wide := mustSame(t, s, list)
		got, e := stem.Same(other.tube, other.history, other.ices, others)
		if e != api.OK && e != api.ErrFail || e == api.OK && !within(got, wide) {
			t.Errorf("%v, %v: %v, but with %v, %v: %v, %v", s, list, wide, other, others, got, e)
		}
		if e == api.OK && got != wide {
			narrowed++
		}
	})
	if narrowed < 50 {
		t.Errorf("too few became surer: %d", narrowed)
	}
}

// P6.10: readings that were taken in ice, of the zeros that there were.
func TestTakenInIce(t *testing.T) {
	taken := 0
	try := func(d dice, s scene, r stem.Reading) {
		zero := s.zeros[r.Day]
		x := d.truth(s, r, zero)
		r, ok := shows(r, x, 0)
		if !ok {
			return
		}
		i, e := stem.IceOf(s.tube, r)
		if e == api.ErrBound {
			return
		}
		taken++
		if e != api.OK || i.Day != r.Day || !has(to(i.Zero-i.Error, i.Zero+i.Error), zero) {
			t.Errorf("%v, %v: %v, %v, but the zero is %d", s.tube, r, i, e, zero)
		}
		if _, e := glass.Zeros(s.tube.Glass, s.history, append(slices.Clone(s.ices), i)); e != api.OK {
			t.Errorf("%v, %v: %v does not agree", s, r, i)
		}
	}
	small(t, 500, try)
	large(t, 100, try)
	if taken < 200 {
		t.Errorf("too few were taken: %d", taken)
	}
}

// P6.11 for readings of any size.
func TestTogether(t *testing.T) {
	scenes(t, 300, anyLimits(), func(d dice, s scene) {
		list, degrees := d.bath(s, anyLimits(), d.from(1, api.MaxStemReadings), 0)
		got := mustSame(t, s, list)
		if !has(got, degrees) {
			t.Errorf("%v, %v: %v, but it was %d", s, list, got, degrees)
		}
		for _, r := range list {
			alone := mustCorrect(t, s, r)
			if !within(got, alone) {
				t.Errorf("%v, %v: %v, but %v alone: %v", s, list, got, r, alone)
			}
			if same := mustSame(t, s, []stem.Reading{r}); same != alone {
				t.Errorf("%v, %v: one alone: %v, not %v", s, r, same, alone)
			}
		}
	})
}

// P6.12: what is accepted is neither broken nor stale, and is sure enough, also
// for greater numbers.
func TestRefused(t *testing.T) {
	accepted, refused := 0, map[api.Errno]int{}
	large(t, 600, func(d dice, s scene, r stem.Reading) {
		s.tube.Term = d.IntN(api.MaxStemTerm + 1)
		r.Broken = d.IntN(4) == 0
		s.ices = append(s.ices, d.ice(s))
		if d.IntN(4) == 0 {
			s.ices[0].Zero += 2*s.ices[0].Error + 100
		}
		most := d.IntN(200)
		got, e := stem.Accept(s.tube, s.history, s.ices, r, most)
		if want := whyNot(s, r, most); e != want {
			t.Errorf("%v, %v, accepted for %d: %v, %v, not %v", s, r, most, got, e, want)
		}
		if e != api.OK {
			refused[e]++
			return
		}
		accepted++
		if greater, e := stem.Accept(s.tube, s.history, s.ices, r, most+d.IntN(50)); greater != got || e != api.OK {
			t.Errorf("%v, %v: %v for %d, but %v, %v for more", s, r, got, most, greater, e)
		}
	})
	if accepted < 20 || refused[api.ErrState] < 20 || refused[api.ErrStale] < 20 || refused[api.ErrFail] < 20 || refused[api.ErrBound] < 20 {
		t.Errorf("too few of a kind were tried: %d, %v", accepted, refused)
	}
}

// whyNot follows the definitions, in the order of the chapter's errors.
func whyNot(s scene, r stem.Reading, most int) api.Errno {
	if r.Broken {
		return api.ErrState
	}
	last := 0
	for day := range r.Day + 1 {
		if slices.ContainsFunc(s.ices, func(i glass.Ice) bool { return i.Day == day }) {
			last = day
		}
	}
	if r.Day > last+s.tube.Term {
		return api.ErrStale
	}
	if len(zerosThatCanBe(s, r.Day)) == 0 {
		return api.ErrFail
	}
	var ends []int
	for _, x := range corners(s, r) {
		ends = append(ends, temperature(r, x))
	}
	if bounds := boundsOf(ends); bounds.Hi-bounds.Lo > most {
		return api.ErrBound
	}
	return api.OK
}

// The document's P7: ices and readings in another order leave the same ranges.
func TestAnyOrder(t *testing.T) {
	scenes(t, 200, anyLimits(), func(d dice, s scene) {
		s.ices = append(s.ices, d.ice(s), d.ice(s))
		s.tube.Term = d.from(3, 8)
		list, _ := d.bath(s, anyLimits(), d.from(2, api.MaxStemReadings), 3)
		other, others := s, slices.Clone(list)
		other.ices = slices.Clone(s.ices)
		d.Shuffle(len(others), func(i, k int) { others[i], others[k] = others[k], others[i] })
		d.Shuffle(len(other.ices), func(i, k int) { other.ices[i], other.ices[k] = other.ices[k], other.ices[i] })
		got, e := stem.Same(s.tube, s.history, s.ices, list)
		turned, f := stem.Same(other.tube, other.history, other.ices, others)
		if got != turned || e != f {
			t.Errorf("%v, %v: %v, %v, but %v, %v of %v, %v", s, list, got, e, turned, f, other.ices, others)
		}
		got, e = stem.Correct(s.tube, s.history, s.ices, list[0])
		turned, f = stem.Correct(s.tube, s.history, other.ices, list[0])
		if got != turned || e != f {
			t.Errorf("%v, %v: %v, %v, but %v, %v by %v", s, list[0], got, e, turned, f, other.ices)
		}
	})
}
