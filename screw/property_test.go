package screw_test

import (
	"slices"
	"testing"

	"meniscus/api"
	"meniscus/screw"
)

// small hands some small screws, with the places of all their truths, and scales
// near these places, to a test.
func small(t *testing.T, many int, try func(d dice, s screw.Screw, all [][]int, scale []int)) {
	t.Helper()
	d := newDice(2)
	for range many {
		s := d.smallScrew()
		try(d, s, engraved(s), d.scaleNear(s, d.from(1, 5), d.from(0, s.Step)))
		if t.Failed() {
			return
		}
	}
}

// large hands some screws of any size, with truths and scales of these, to a
// test.
func large(t *testing.T, many int, try func(d dice, s screw.Screw, truth screw.Truth, scale []int)) {
	t.Helper()
	d := newDice(3)
	for range many {
		s := d.anyScrew()
		try(d, s, truthOf(s, d.of), d.scaleNear(s, d.from(1, api.MaxScrewLines), d.from(0, 2*s.Step)))
		if t.Failed() {
			return
		}
	}
}

func mustPlace(t *testing.T, s screw.Screw, tick int, truth screw.Truth) int {
	t.Helper()
	got, e := screw.Place(s, tick, truth)
	if e != api.OK {
		t.Fatalf("Place of %v, %d, %v: %v", s, tick, truth, e)
	}
	return got
}

func mustBounds(t *testing.T, s screw.Screw, tick int) screw.Range {
	t.Helper()
	got, e := screw.Bounds(s, tick)
	if e != api.OK {
		t.Fatalf("Bounds of %v, %d: %v", s, tick, e)
	}
	return got
}

func mustPrinted(t *testing.T, s screw.Screw, scale []int) int {
	t.Helper()
	got, e := screw.Printed(s, scale)
	if e != api.OK {
		t.Fatalf("Printed of %v, %v: %v", s, scale, e)
	}
	return got
}

func mustCut(t *testing.T, s screw.Screw, scale []int, bound int) (cutting []int, settings int) {
	t.Helper()
	cutting, settings, e := screw.Cut(s, scale, bound)
	if e != api.OK {
		t.Fatalf("Cut of %v, %v, %d: %v", s, scale, bound, e)
	}
	return cutting, settings
}

// boundNear is one for which it matters that it is not another one.
func (d dice) boundNear(t *testing.T, s screw.Screw, scale []int) int {
	t.Helper()
	return max(0, mustPrinted(t, s, scale)+d.from(-2, 6))
}

func has(r screw.Range, n int) bool { return r.Lo <= n && n <= r.Hi }

// narrower is the screw with no wider phases and wears.
func (d dice) narrower(s screw.Screw) screw.Screw {
	s.Phases, s.Zones = slices.Clone(s.Phases), slices.Clone(s.Zones)
	part := func(r screw.Range) screw.Range {
		if d.IntN(3) == 0 {
			return r
		}
		lo := d.of(r)
		return to(lo, d.from(lo, r.Hi))
	}
	for i := range s.Phases {
		s.Phases[i] = part(s.Phases[i])
	}
	for i := range s.Zones {
		s.Zones[i].Wear = part(s.Zones[i].Wear)
	}
	return s
}

// some are some of the lines of a list, of all lists the same ones.
func (d dice) some(lists ...[]int) [][]int {
	few := make([][]int, len(lists))
	for _, at := range d.rising(d.from(1, len(lists[0])), 0, len(lists[0])-1) {
		for i := range lists {
			few[i] = append(few[i], lists[i][at])
		}
	}
	return few
}

// P4.1: a place is as defined.
func TestPlacesAsDefined(t *testing.T) {
	large(t, 2000, func(d dice, s screw.Screw, truth screw.Truth, _ []int) {
		if e := screw.CheckScrew(s); e != api.OK {
			t.Errorf("%v: %v", s, e)
		}
		for _, tick := range []int{0, s.Ticks, d.IntN(s.Ticks + 1), d.IntN(s.Ticks + 1)} {
			if got := mustPlace(t, s, tick, truth); got != place(s, tick, truth) {
				t.Errorf("%v, %d, %v: %d, not %d", s, tick, truth, got, place(s, tick, truth))
			}
		}
	})
}

// P4.2, and the document's P2: all truths are tried.
func TestBoundsAsDefined(t *testing.T) {
	small(t, 500, func(d dice, s screw.Screw, all [][]int, scale []int) {
		cutting := d.rising(len(scale), 0, s.Ticks)
		out, e := screw.Out(s, scale, cutting)
		if e != api.OK || len(out) != len(scale) {
			t.Fatalf("%v, %v, %v: %v, %v", s, scale, cutting, out, e)
		}
		for tick := 0; tick <= s.Ticks; tick++ {
			want := to(all[0][tick], all[0][tick])
			for _, places := range all {
				want = to(min(want.Lo, places[tick]), max(want.Hi, places[tick]))
			}
			if got := mustBounds(t, s, tick); got != want {
				t.Errorf("%v, %d: %v, not %v", s, tick, got, want)
			}
			if line := slices.Index(cutting, tick); line >= 0 && out[line] != to(want.Lo-scale[line], want.Hi-scale[line]) {
				t.Errorf("%v, %v, %v: the line %d: %v", s, scale, cutting, line, out[line])
			}
		}
	})
}

// P4.3, and the document's P3: all truths are tried.
func TestRightAndWrongAsDefined(t *testing.T) {
	small(t, 1000, func(d dice, s screw.Screw, all [][]int, scale []int) {
		bound := d.boundNear(t, s, scale)
		var want []int
		for tick := 0; tick <= s.Ticks; tick++ {
			if keepsLine(all, scale[0], tick, bound) {
				want = append(want, tick)
			}
		}
		got, e := screw.Right(s, scale[0], bound)
		if !slices.Equal(got, want) || (e == api.OK) != (len(want) > 0) || e != api.OK && e != api.ErrNone {
			t.Errorf("%v, %d, %d: %v, %v, not %v", s, scale[0], bound, got, e, want)
		}
		cutting := d.rising(len(scale), 0, s.Ticks)
		if best := bestOf(s, all, scale, bound+d.from(0, 2)); best != nil {
			cutting = best
		}
		first := slices.IndexFunc(scale, func(place int) bool {
			return !keepsLine(all, place, cutting[slices.Index(scale, place)], bound)
		})
		wrong, e := screw.Wrong(s, scale, cutting, bound)
		if first < 0 && (wrong != 0 || e != api.ErrNone) || first >= 0 && (wrong != first || e != api.OK) {
			t.Errorf("%v, %v, %v, %d: %d, %v, not %d", s, scale, cutting, bound, wrong, e, first)
		}
	})
}

// P4.4, P4.8, and the document's P5: all cuttings are tried.
func TestCutAsDefined(t *testing.T) {
	cut, failed, unbound := 0, 0, 0
	small(t, 1500, func(d dice, s screw.Screw, all [][]int, scale []int) {
		bound := d.boundNear(t, s, scale)
		want := bestOf(s, all, scale, bound)
		got, settings, e := screw.Cut(s, scale, bound)
		switch e {
		case api.OK:
			cut++
			if want == nil || !slices.Equal(got, want) || settings != settingsOf(want) {
				t.Errorf("%v, %v, %d: %v, %d, not %v", s, scale, bound, got, settings, want)
			}
		case api.ErrFail, api.ErrBound:
			failed++
			stuck := slices.ContainsFunc(scale, func(place int) bool {
				for tick := 0; tick <= s.Ticks; tick++ {
					if keepsLine(all, place, tick, bound) {
						return false
					}
				}
				return true
			})
			if stuck {
				unbound++
			}
			if want != nil || stuck != (e == api.ErrBound) {
				t.Errorf("%v, %v, %d: %v, but %v, %v", s, scale, bound, e, want, stuck)
			}
		default:
			t.Errorf("%v, %v, %d: %v", s, scale, bound, e)
		}
	})
	if cut < 500 || unbound < 100 || failed-unbound < 10 {
		t.Errorf("too few of a kind were tried: %d, %d, %d", cut, failed, unbound)
	}
}

// P4.4: ProveCutting is held against its definition.
func TestProveCuttingAsDefined(t *testing.T) {
	proved := 0
	small(t, 2000, func(d dice, s screw.Screw, all [][]int, scale []int) {
		bound, settings := d.boundNear(t, s, scale), d.from(0, 3)
		cutting := d.rising(len(scale), 0, s.Ticks)
		if best := bestOf(s, all, scale, bound); best != nil && d.IntN(3) > 0 {
			cutting = best
		}
		want := keeps(all, scale, cutting, bound) && settingsOf(cutting) <= settings
		if got := screw.ProveCutting(s, scale, cutting, bound, settings); got != want {
			t.Errorf("%v, %v, %v, %d, %d: %v", s, scale, cutting, bound, settings, got)
		}
		if want {
			proved++
		}
	})
	if proved < 300 {
		t.Errorf("too few were proved: %d", proved)
	}
}

// P4.4, P4.8: whatever is cut by one setting is found, of screws of any size.
func TestOneSetting(t *testing.T) {
	found := 0
	large(t, 300, func(d dice, s screw.Screw, _ screw.Truth, scale []int) {
		bound := mustPrinted(t, s, scale) + d.IntN(2*s.Step)
		if bound > api.MaxScrewPlace {
			return
		}
		var least []int
		for first := s.Ticks; first >= 0 && len(scale) > 1; first-- {
			for setting := (s.Ticks - first) / (len(scale) - 1); setting > 0; setting-- {
				var cutting []int
				for line := range scale {
					cutting = append(cutting, first+line*setting)
				}
				if _, e := screw.Wrong(s, scale, cutting, bound); e == api.ErrNone {
					least = cutting
				}
			}
		}
		got, settings := mustCut(t, s, scale, bound)
		if least != nil && (settings != 1 || !slices.Equal(got, least)) || least == nil && len(scale) > 1 && settings < 2 {
			t.Errorf("%v, %v, %d: %v, %d, not %v", s, scale, bound, got, settings, least)
		}
		if least != nil {
			found++
		}
	})
	if found < 50 {
		t.Errorf("too few could be cut by one setting: %d", found)
	}
}

// P4.5, P4.9: all cuttings of small screws are tried.
func TestPrintedAsDefined(t *testing.T) {
	small(t, 500, func(d dice, s screw.Screw, all [][]int, scale []int) {
		printed := mustPrinted(t, s, scale)
		every := cuttings(len(scale), s.Ticks)
		some := func(bound int) bool {
			return slices.ContainsFunc(every, func(c []int) bool { return keeps(all, scale, c, bound) })
		}
		if !some(printed) || printed > 0 && some(printed-1) || printed < 0 {
			t.Errorf("%v, %v: %d", s, scale, printed)
		}
	})
}

// P4.9
func TestPrintedCanBeKept(t *testing.T) {
	large(t, 1000, func(d dice, s screw.Screw, _ screw.Truth, scale []int) {
		printed := mustPrinted(t, s, scale)
		cutting, settings := mustCut(t, s, scale, printed)
		if !screw.ProveCutting(s, scale, cutting, printed, settings) {
			t.Errorf("%v, %v: %v does not keep %d", s, scale, cutting, printed)
		}
		if printed == 0 {
			return
		}
		if got, _, e := screw.Cut(s, scale, printed-1); e != api.ErrFail && e != api.ErrBound {
			t.Errorf("%v, %v: %v keeps less than %d", s, scale, got, printed)
		}
		if screw.ProveCutting(s, scale, cutting, printed-1, settings) {
			t.Errorf("%v, %v: %v is proved with less than %d", s, scale, cutting, printed)
		}
	})
}

// P4.6, and the document's P3.
func TestTheWholeOfTheScrew(t *testing.T) {
	large(t, 1000, func(d dice, s screw.Screw, _ screw.Truth, scale []int) {
		bound := min(mustPrinted(t, s, scale)+d.IntN(5), api.MaxScrewPlace)
		cutting, _ := mustCut(t, s, scale, bound)
		out, e := screw.Out(s, scale, cutting)
		if e != api.OK || len(out) != len(scale) {
			t.Fatalf("%v, %v, %v: %v, %v", s, scale, cutting, out, e)
		}
		for range 5 {
			truth := truthOf(s, d.of)
			for line, tick := range cutting {
				by := mustPlace(t, s, tick, truth) - scale[line]
				if !has(out[line], by) || !has(to(-bound, bound), by) {
					t.Errorf("%v, %v, %v, %v: the line %d is out by %d", s, truth, scale, cutting, line, by)
				}
			}
		}
	})
}

// P4.7, and the document's P2.
func TestTheEnds(t *testing.T) {
	large(t, 1000, func(d dice, s screw.Screw, truth screw.Truth, _ []int) {
		low, high := truthOf(s, lowEnd), truthOf(s, highEnd)
		for tick := 0; tick <= s.Ticks; tick++ {
			b := mustBounds(t, s, tick)
			if got := to(mustPlace(t, s, tick, low), mustPlace(t, s, tick, high)); got != b {
				t.Errorf("%v, %d: %v is not reached, but %v", s, tick, b, got)
			}
			if got := mustPlace(t, s, tick, truth); !has(b, got) {
				t.Errorf("%v, %d: %d is not in %v", s, tick, got, b)
			}
		}
	})
}

// P4.10
func TestEasier(t *testing.T) {
	large(t, 1000, func(d dice, s screw.Screw, _ screw.Truth, scale []int) {
		narrow, printed := d.narrower(s), mustPrinted(t, s, scale)
		bound := min(printed+d.IntN(s.Step), api.MaxScrewPlace)
		greater := d.from(bound, min(bound+s.Step, api.MaxScrewPlace))
		line := scale[d.IntN(len(scale))]
		ticks, e := screw.Right(s, line, bound)
		if e != api.OK {
			t.Fatalf("%v, %d, %d: %v", s, line, bound, e)
		}
		_, settings := mustCut(t, s, scale, bound)
		for _, easier := range []struct {
			s     screw.Screw
			bound int
		}{{s, greater}, {narrow, bound}, {narrow, greater}} {
			more, e := screw.Right(easier.s, line, easier.bound)
			if e != api.OK || slices.ContainsFunc(ticks, func(tick int) bool { return !slices.Contains(more, tick) }) {
				t.Errorf("%v, %d, %d: %v; %v, %d: %v, %v", s, line, bound, ticks, easier.s, easier.bound, more, e)
			}
			if _, fewer := mustCut(t, easier.s, scale, easier.bound); fewer > settings {
				t.Errorf("%v, %v, %d: %d settings; %v, %d: %d", s, scale, bound, settings, easier.s, easier.bound, fewer)
			}
		}
		if got := mustPrinted(t, narrow, scale); got > printed {
			t.Errorf("%v, %v: %d; %v: %d", s, scale, printed, narrow, got)
		}
	})
}

// P4.11
func TestTurns(t *testing.T) {
	turned := 0
	large(t, 1000, func(d dice, s screw.Screw, truth screw.Truth, _ []int) {
		ways := map[int]int{}
		turn := len(s.Phases)
		for tick := 0; tick+turn <= s.Ticks; tick++ {
			number := zoneOf(s, tick)
			if zoneOf(s, tick+turn-1) != number {
				continue
			}
			way := mustPlace(t, s, tick+turn, truth) - mustPlace(t, s, tick, truth)
			if other, known := ways[number]; known && other != way {
				t.Errorf("%v, %v: a turn leads on from %d by %d, and from another tick by %d", s, truth, tick, way, other)
			} else if known {
				turned++
			}
			ways[number] = way
		}
	})
	if turned < 1000 {
		t.Errorf("too few turns: %d", turned)
	}
}

// P4.12
func TestFewerLines(t *testing.T) {
	large(t, 1000, func(d dice, s screw.Screw, _ screw.Truth, scale []int) {
		printed := mustPrinted(t, s, scale)
		bound := min(printed+d.IntN(s.Step), api.MaxScrewPlace)
		cutting, _ := mustCut(t, s, scale, bound)
		few := d.some(scale, cutting)
		if line, e := screw.Wrong(s, few[0], few[1], bound); e != api.ErrNone {
			t.Errorf("%v, %v, %v, %d: %d, %v", s, few[0], few[1], bound, line, e)
		}
		if !screw.ProveCutting(s, few[0], few[1], bound, len(few[0])) {
			t.Errorf("%v, %v, %v, %d is not proved", s, few[0], few[1], bound)
		}
		if got := mustPrinted(t, s, few[0]); got > printed {
			t.Errorf("%v, %v: %d; %v: %d", s, scale, printed, few[0], got)
		}
	})
}

// P4.13
func TestOnAndOn(t *testing.T) {
	large(t, 1000, func(d dice, s screw.Screw, truth screw.Truth, _ []int) {
		for _, truth := range []screw.Truth{truth, truthOf(s, lowEnd), truthOf(s, highEnd)} {
			for tick := 1; tick <= s.Ticks; tick++ {
				if before, at := mustPlace(t, s, tick-1, truth), mustPlace(t, s, tick, truth); at < before+1 {
					t.Errorf("%v, %v: the tick %d leads from %d to %d", s, truth, tick, before, at)
				}
			}
		}
		for tick := 1; tick <= s.Ticks; tick++ {
			if before, at := mustBounds(t, s, tick-1), mustBounds(t, s, tick); at.Lo <= before.Lo || at.Hi <= before.Hi {
				t.Errorf("%v: the bounds of %d are %v, and of %d %v", s, tick-1, before, tick, at)
			}
		}
	})
}
