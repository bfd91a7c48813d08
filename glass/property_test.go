package glass_test

import (
	"slices"
	"testing"

	"meniscus/api"
	"meniscus/glass"
)

// small hands some small glasses, with histories, all their zeros, and ices, to
// a test.
func small(t *testing.T, many int, try func(d dice, g glass.Glass, history []glass.Range, all [][]int, ices []glass.Ice)) {
	t.Helper()
	d := newDice(1)
	for range many {
		g, history := d.smallGlass(), d.smallHistory()
		all := played(g, history)
		ices := d.ices(all[d.IntN(len(all))], d.IntN(6), d.from(1, 6))
		try(d, g, history, all, ices)
		if t.Failed() {
			return
		}
	}
}

// large hands some glasses of any size, with histories, truths of these, and as
// many ices as there may be less one, which are true in them, to a test.
func large(t *testing.T, many int, try func(d dice, g glass.Glass, history []glass.Range, truth glass.Truth, ices []glass.Ice)) {
	t.Helper()
	d := newDice(2)
	for range many {
		g, history := d.anyGlass(), d.anyHistory()
		truth := d.truth(g, history)
		ices := d.ices(zerosIn(g, truth), d.IntN(api.MaxGlassIces), 1<<30)
		try(d, g, history, truth, ices)
		if t.Failed() {
			return
		}
	}
}

func mustZeros(t *testing.T, g glass.Glass, history []glass.Range, ices []glass.Ice) []glass.Range {
	t.Helper()
	ranges, e := glass.Zeros(g, history, ices)
	if e != api.OK || len(ranges) != len(history) {
		t.Fatalf("Zeros of %v, %v, %v: %v, %v", g, history, ices, ranges, e)
	}
	return ranges
}

func mustPlay(t *testing.T, g glass.Glass, history []glass.Range, truth glass.Truth) []int {
	t.Helper()
	zeros, e := glass.Play(g, history, truth)
	if e != api.OK || len(zeros) != len(history) {
		t.Fatalf("Play of %v, %v, %v: %v, %v", g, history, truth, zeros, e)
	}
	return zeros
}

func has(r glass.Range, n int) bool { return r.Lo <= n && n <= r.Hi }

func inside(inner, outer glass.Range) bool { return outer.Lo <= inner.Lo && inner.Hi <= outer.Hi }

// P2.1, P2.2: a truth is played, and proved, as defined.
func TestTruthsAsDefined(t *testing.T) {
	large(t, 2000, func(d dice, g glass.Glass, history []glass.Range, truth glass.Truth, _ []glass.Ice) {
		zeros := zerosIn(g, truth)
		if e := glass.CheckGlass(g); e != api.OK {
			t.Errorf("%v: %v", g, e)
		}
		if got := mustPlay(t, g, history, truth); !slices.Equal(got, zeros) {
			t.Errorf("%v, %v, %v: %v, not %v", g, history, truth, got, zeros)
		}
		ices := d.ices(zeros, d.from(0, api.MaxGlassIces), d.from(1, 9))
		if got := glass.ProveTruth(g, history, ices, truth); got != allTrue(ices, zeros) {
			t.Errorf("%v, %v, %v, %v: %v", g, history, ices, truth, got)
		}
		day := d.IntN(len(history))
		for _, n := range []*int{&truth.Heats[day], &truth.Creeps[day], &truth.Backs[day]} {
			held := *n
			*n = d.from(-1, 6)
			want := has(history[day], truth.Heats[day]) && has(creepOn(g, day), truth.Creeps[day]) && has(g.Back, truth.Backs[day])
			if got := glass.ProveTruth(g, history, nil, truth); got != want {
				t.Errorf("%v, %v, %v: %v, not %v", g, history, truth, got, want)
			}
			*n = held
		}
	})
}

// P2.2, P2.5, P2.6, and the document's P2: the ranges are as defined.
func TestZerosAsDefined(t *testing.T) {
	small(t, 1000, func(d dice, g glass.Glass, history []glass.Range, all [][]int, ices []glass.Ice) {
		some := believing(all, ices)
		if len(some) == 0 {
			if got, e := glass.Zeros(g, history, ices); e != api.ErrFail || len(got) != 0 {
				t.Errorf("%v, %v, %v: %v, %v, but no truth agrees", g, history, ices, got, e)
			}
			return
		}
		for day, got := range mustZeros(t, g, history, ices) {
			want := to(some[0][day], some[0][day])
			for _, zeros := range some {
				want = to(min(want.Lo, zeros[day]), max(want.Hi, zeros[day]))
			}
			if got != want {
				t.Errorf("%v, %v, %v: the day %d: %v, not %v", g, history, ices, day, got, want)
			}
		}
	})
}

// P2.3, P2.10, and the document's P5 and P6: any list of ices is tried.
func TestFalseIcesAsDefined(t *testing.T) {
	small(t, 1000, func(d dice, g glass.Glass, history []glass.Range, all [][]int, ices []glass.Ice) {
		agree := func(ices []glass.Ice) bool { return len(believing(all, ices)) > 0 }
		every := lists(len(ices))
		least := slices.IndexFunc(every, func(list []int) bool { return agree(without(ices, list)) })
		fewest, e := glass.Fewest(g, history, ices)
		if e != api.OK || !slices.Equal(fewest, every[least]) {
			t.Errorf("Fewest of %v, %v, %v: %v, %v, not %v", g, history, ices, fewest, e, every[least])
		}
		shows, want := 0, api.ErrNone
		if !agree(ices) {
			want = api.OK
			for agree(ices[:shows+1]) {
				shows++
			}
		}
		if got, e := glass.Shows(g, history, ices); got != shows || e != want {
			t.Errorf("Shows of %v, %v, %v: %d, %v, not %d, %v", g, history, ices, got, e, shows, want)
		}
		var alone []int
		for number := range ices {
			if !agree(ices) && agree(without(ices, []int{number})) {
				alone = append(alone, number)
			}
		}
		blame, want := 0, api.ErrNone
		if len(alone) == 1 {
			blame, want = alone[0], api.OK
		}
		if got, e := glass.Blame(g, history, ices); got != blame || e != want {
			t.Errorf("Blame of %v, %v, %v: %d, %v, not %d, %v", g, history, ices, got, e, blame, want)
		}
	})
}

// P2.4, and the document's P3: what holds, holds in each truth, and on the day
// behind it not in some.
func TestHoldsAsDefined(t *testing.T) {
	small(t, 1000, func(d dice, g glass.Glass, history []glass.Range, all [][]int, ices []glass.Ice) {
		some := believing(all, ices)
		low := g.Base + d.from(-10, 2)
		high := low + d.IntN(15)
		got, e := glass.Holds(g, history, ices, low, high)
		kept := 0
		for kept < len(history) && !slices.ContainsFunc(some, func(zeros []int) bool { return !has(to(low, high), zeros[kept]) }) {
			kept++
		}
		last, want := kept-1, api.OK
		if len(some) == 0 {
			last, want = 0, api.ErrFail
		} else if kept == 0 {
			last, want = 0, api.ErrBound
		}
		if got != last || e != want {
			t.Errorf("%v, %v, %v, from %d to %d: %d, %v, not %d, %v", g, history, ices, low, high, got, e, last, want)
		}
	})
}

// P2.5 and P2.6 for glasses of any size.
func TestWhateverItHasLivedThrough(t *testing.T) {
	large(t, 100, func(d dice, g glass.Glass, history []glass.Range, truth glass.Truth, ices []glass.Ice) {
		if !glass.ProveTruth(g, history, ices, truth) {
			t.Errorf("%v, %v, %v, %v: no truth", g, history, ices, truth)
		}
		zeros, ranges := mustPlay(t, g, history, truth), mustZeros(t, g, history, ices)
		for day, r := range ranges {
			if !has(r, zeros[day]) {
				t.Errorf("%v, %v, %v: the day %d: %v, but it is %d", g, history, ices, day, r, zeros[day])
			}
		}
		day := d.IntN(len(history))
		for zero, want := range map[int]api.Errno{
			ranges[day].Lo: api.OK, ranges[day].Hi: api.OK, ranges[day].Lo - 1: api.ErrFail, ranges[day].Hi + 1: api.ErrFail,
		} {
			more := append(slices.Clone(ices), ice(day, zero, 0))
			if _, e := glass.Zeros(g, history, more); e != want {
				t.Errorf("%v, %v, %v: %v, not %v", g, history, more, e, want)
			}
		}
	})
}

// P2.7
func TestWithoutIce(t *testing.T) {
	large(t, 200, func(d dice, g glass.Glass, history []glass.Range, _ glass.Truth, _ []glass.Ice) {
		low := mustPlay(t, g, history, truthOf(g, history, highEnd, lowEnd, lowEnd))
		high := mustPlay(t, g, history, truthOf(g, history, lowEnd, highEnd, highEnd))
		for day, r := range mustZeros(t, g, history, nil) {
			if r != to(low[day], high[day]) {
				t.Errorf("%v, %v: the day %d: %v, not %d to %d", g, history, day, r, low[day], high[day])
			}
		}
	})
}

// P2.8: a heat that sinks no deeper than what is left might as well be any other
// such heat; behind a deeper one the heats before it might as well be none.
func TestTheMemory(t *testing.T) {
	d := newDice(3)
	shallow, deep := 0, 0
	for range 2000 {
		g := d.anyGlass()
		g.Depths[0].Sink *= min(1, g.Depths[0].From) // so that the heat 0 does not sink
		history := slices.Repeat([]glass.Range{to(0, api.MaxGlassHeat)}, d.from(2, api.MaxGlassDays))
		truth := d.truth(g, history)
		zeros, before := mustPlay(t, g, history, truth), 0
		sinkList, _ := sinksAndZeros(g, truth)
		for day, heat := range truth.Heats {
			left := max(0, before-truth.Backs[day])
			before = sinkList[day]
			other := glass.Truth{Heats: slices.Clone(truth.Heats), Creeps: truth.Creeps, Backs: truth.Backs}
			from := 0
			if sinks(g, heat) <= left {
				shallow++
				other.Heats[day] = 0
			} else {
				deep++
				from = day
				clear(other.Heats[:day])
			}
			if got := mustPlay(t, g, history, other); !slices.Equal(got[from:], zeros[from:]) {
				t.Fatalf("%v: %v on the day %d: %v, not %v as with %v", g, other, day, got, zeros, truth)
			}
		}
	}
	if shallow < 1000 || deep < 1000 {
		t.Errorf("too few heats were tried: %d, %d", shallow, deep)
	}
}

// P2.9: an ice more, or a lesser error, whether it is true or not.
func TestMoreIce(t *testing.T) {
	large(t, 100, func(d dice, g glass.Glass, history []glass.Range, truth glass.Truth, ices []glass.Ice) {
		zeros := zerosIn(g, truth)
		ices = append(ices, d.ices(zeros, 1, 2)...)[:min(len(ices)+1, api.MaxGlassIces-1)]
		more := append(slices.Clone(ices), d.ices(zeros, 1, 2)...)
		lesser := slices.Clone(ices)
		for n := range lesser {
			lesser[n].Error = d.IntN(lesser[n].Error + 1)
		}
		for _, stricter := range [][]glass.Ice{more, lesser} {
			checkStricter(t, g, history, ices, stricter)
		}
	})
}

func checkStricter(t *testing.T, g glass.Glass, history []glass.Range, ices, stricter []glass.Ice) {
	t.Helper()
	wide, e := glass.Zeros(g, history, ices)
	narrow, f := glass.Zeros(g, history, stricter)
	if e != api.OK && f == api.OK {
		t.Errorf("%v, %v: %v do not agree, but %v do", g, history, ices, stricter)
	}
	for day := range narrow {
		if !inside(narrow[day], wide[day]) {
			t.Errorf("%v, %v, %v: the day %d: %v, but with %v %v", g, history, ices, day, wide[day], stricter, narrow[day])
		}
	}
	some, _ := glass.Fewest(g, history, ices)
	others, _ := glass.Fewest(g, history, stricter)
	if len(others) < len(some) {
		t.Errorf("%v, %v: Fewest of %v are %v, but of %v %v", g, history, ices, some, stricter, others)
	}
	shown, e := glass.Shows(g, history, ices)
	earlier, f := glass.Shows(g, history, stricter)
	if e == api.OK && (f != api.OK || earlier > shown) {
		t.Errorf("%v, %v: %d of %v shows it, but %d, %v of %v", g, history, shown, ices, earlier, f, stricter)
	}
}

// P2.10 for glasses of any size.
func TestFalse(t *testing.T) {
	large(t, 100, func(d dice, g glass.Glass, history []glass.Range, truth glass.Truth, _ []glass.Ice) {
		zeros := zerosIn(g, truth)
		ices := d.ices(zeros, d.from(1, api.MaxGlassIces), 2)
		var wrong []int
		for number, i := range ices {
			if !isTrue(i, zeros) {
				wrong = append(wrong, number)
			}
		}
		mustZeros(t, g, history, without(ices, wrong))
		fewest, e := glass.Fewest(g, history, ices)
		if e != api.OK || len(fewest) > len(wrong) {
			t.Errorf("%v, %v, %v: Fewest: %v, %v, but %v are enough", g, history, ices, fewest, e, wrong)
		}
		mustZeros(t, g, history, without(ices, fewest))
		first, e := glass.Shows(g, history, ices)
		if len(fewest) == 0 {
			if e != api.ErrNone {
				t.Errorf("%v, %v, %v: Shows: %d, %v", g, history, ices, first, e)
			}
			return
		}
		mustZeros(t, g, history, ices[:first])
		if _, f := glass.Zeros(g, history, ices[:first+1]); e != api.OK || f != api.ErrFail {
			t.Errorf("%v, %v, %v: Shows: %d, %v, but Zeros: %v", g, history, ices, first, e, f)
		}
	})
}

// P2.11
func TestLonger(t *testing.T) {
	large(t, 200, func(d dice, g glass.Glass, history []glass.Range, _ glass.Truth, ices []glass.Ice) {
		if len(history) == api.MaxGlassDays {
			return
		}
		longer := append(slices.Clone(history), d.part(0, api.MaxGlassHeat, api.MaxGlassHeat))
		before, behind := mustZeros(t, g, history, ices), mustZeros(t, g, longer, ices)
		if !slices.Equal(before, behind[:len(history)]) {
			t.Errorf("%v, %v, %v: %v, then %v", g, longer, ices, before, behind)
		}
	})
}

// P2.12
func TestHigher(t *testing.T) {
	large(t, 100, func(d dice, g glass.Glass, history []glass.Range, truth glass.Truth, ices []glass.Ice) {
		ices = append(ices, d.ices(zerosIn(g, truth), 1, 2)...)
		by := d.from(-100, 100)
		higher, told := g, slices.Clone(ices)
		higher.Base += by
		for n := range told {
			told[n].Zero += by
		}
		zeros := mustPlay(t, g, history, truth)
		for day, zero := range mustPlay(t, higher, history, truth) {
			if zero != zeros[day]+by {
				t.Errorf("%v, %v, %v: %d on the day %d, but higher by %d %d", g, history, truth, zeros[day], day, by, zero)
			}
		}
		low := g.Base - 20
		first, second := callAll(g, history, ices, truth, low, low+40), callAll(higher, history, told, truth, low+by, low+40+by)
		for day := range second.zeros {
			second.zeros[day] = to(second.zeros[day].Lo-by, second.zeros[day].Hi-by)
		}
		first.play, second.play = nil, nil
		if !equalResults(first, second) {
			t.Errorf("%v, %v, %v: %v, but higher by %d %v", g, history, ices, first, by, second)
		}
	})
}

// The document's P7: ices in another order leave the same ranges, and as many of
// them need not be believed.
func TestOrderOfIces(t *testing.T) {
	large(t, 100, func(d dice, g glass.Glass, history []glass.Range, truth glass.Truth, ices []glass.Ice) {
		ices = append(ices, d.ices(zerosIn(g, truth), 1, 2)...)
		other := slices.Clone(ices)
		d.Shuffle(len(other), func(i, k int) { other[i], other[k] = other[k], other[i] })
		first, second := callAll(g, history, ices, truth, -900, 900), callAll(g, history, other, truth, -900, 900)
		if len(first.fewest) != len(second.fewest) || first.errors != second.errors {
			t.Errorf("%v, %v: %v, %v, and %v, %v", g, history, ices, first, other, second)
		}
		// Which ices are named depends on their numbers.
		second.fewest, second.shows, second.blame = first.fewest, first.shows, first.blame
		if !equalResults(first, second) {
			t.Errorf("%v, %v: %v, %v, and %v, %v", g, history, ices, first, other, second)
		}
	})
}
