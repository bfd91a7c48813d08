package cert_test

import (
	"slices"
	"testing"

	"meniscus/api"
	"meniscus/bore"
	"meniscus/cert"
	"meniscus/point"
)

// scenes hands some scenes of this size, and a day, to a test.
func scenes(t *testing.T, many int, l limits, try func(d dice, s scene, day int)) {
	t.Helper()
	d := newDice(uint64(many))
	for range many {
		s := d.scene(l)
		try(d, s, d.IntN(3)*d.from(0, api.MaxCertDay/2))
		if t.Failed() {
			return
		}
	}
}

// small hands some scenes with few truths to a test.
func small(t *testing.T, many int, try func(d dice, s scene, day int)) {
	t.Helper()
	scenes(t, many, smallLimits(), try)
}

// large hands some scenes of any size to a test.
func large(t *testing.T, many int, try func(d dice, s scene, day int)) {
	t.Helper()
	scenes(t, many, anyLimits(), try)
}

func mustHeights(t *testing.T, x cert.Instrument, day int) []cert.Range {
	t.Helper()
	l, e := cert.Heights(x, day)
	if e != api.OK || len(l) != x.Tube.Cells+1 {
		t.Fatalf("Heights of %v, %d: %v, %v", x, day, l, e)
	}
	return l
}

func mustKept(t *testing.T, x cert.Instrument, u cert.Use, day int) bool {
	t.Helper()
	is, e := cert.Kept(x, u, day)
	if e != api.OK {
		t.Fatalf("Kept of %v, %v, %d: %v", x, u, day, e)
	}
	return is
}

// mustDays has no days if there are none.
func mustDays(t *testing.T, x cert.Instrument, u cert.Use) cert.Range {
	t.Helper()
	r, e := cert.Days(x, u)
	if e == api.ErrStale && r == to(0, 0) {
		return to(0, -1)
	}
	if e != api.OK || r.Lo < 0 || r.Hi < r.Lo || r.Hi > api.MaxCertDay {
		t.Fatalf("Days of %v, %v: %v, %v", x, u, r, e)
	}
	return r
}

func mustTold(t *testing.T, x cert.Instrument, s point.Scale, mark, day int) point.Range {
	t.Helper()
	r, e := cert.Told(x, s, mark, day)
	if e != api.OK {
		t.Fatalf("Told of %v, %v, %d, %d: %v", x, s, mark, day, e)
	}
	return r
}

func has(r cert.Range, n int) bool { return r.Lo <= n && n <= r.Hi }

func within(r, other cert.Range) bool { return has(other, r.Lo) && has(other, r.Hi) }

// P7.1, P7.6, P7.7, and the document's P2: all truths are tried.
func TestBoundsAsDefined(t *testing.T) {
	small(t, 400, func(d dice, s scene, day int) {
		heights := mustHeights(t, s.x, day)
		corrections, e := cert.Corrections(s.x, day)
		if e != api.OK || len(corrections) != len(heights) {
			t.Fatalf("Corrections of %v, %d: %v, %v", s.x, day, corrections, e)
		}
		all := truths(s.x, day)
		for mark := range heights {
			want := boundsOf(s.x, all, mark)
			correction := to(want.Lo-tells(s.x, mark), want.Hi-tells(s.x, mark))
			if heights[mark] != want || corrections[mark] != correction {
				t.Errorf("%v, day %d, mark %d: %v, %v, not %v, %v", s.x, day, mark, heights[mark], corrections[mark], want, correction)
			}
		}
	})
}

// P7.1: what contradicts itself has no truth.
func TestContradictions(t *testing.T) {
	contradicting := 0
	small(t, 600, func(d dice, s scene, day int) {
		s.x.Readings = append(s.x.Readings, d.thread(s))
		s.x.Readings[d.IntN(len(s.x.Readings))].In = s.x.Tube.Cells
		want := api.OK
		if len(volumesOf(s.x)) == 0 {
			want = api.ErrFail
			contradicting++
		}
		if e := cert.CheckInstrument(s.x); e != want {
			t.Errorf("%v: %v, not %v", s.x, e, want)
		}
	})
	if contradicting < 50 {
		t.Errorf("too few of a kind were tried: %d", contradicting)
	}
}

// P7.2: the readings that can stand on the scale, and the first ones that cannot.
func TestToldAsDefined(t *testing.T) {
	large(t, 3000, func(d dice, s scene, day int) {
		scale := d.scale()
		mark := d.IntN(s.x.Tube.Cells + 1)
		bounds := mustHeights(t, s.x, day)[mark]
		got := mustTold(t, s.x, scale, mark, day)
		for _, reading := range []int{got.Lo, got.Hi, d.from(got.Lo, got.Hi)} {
			if !canStand(scale, reading, bounds) {
				t.Errorf("%v, day %d, mark %d on %v: %d cannot stand for %v", s.x, day, mark, scale, reading, bounds)
			}
		}
		for _, reading := range []int{got.Lo - 1, got.Hi + 1} {
			if canStand(scale, reading, bounds) {
				t.Errorf("%v, day %d, mark %d on %v: %d can stand for %v", s.x, day, mark, scale, reading, bounds)
			}
		}
	})
}

func (d dice) scale() point.Scale {
	s := point.Scale{Ice: d.from(-api.MaxPointDegree, api.MaxPointDegree), Steam: d.from(-api.MaxPointDegree, api.MaxPointDegree)}
	if d.IntN(2) == 0 {
		s = point.Scale{Ice: d.from(-50, 50), Steam: d.from(-200, 200)}
	}
	if s.Ice == s.Steam {
		return d.scale()
	}
	return s
}

// P7.3 and the document's P3: whether a use is kept, by all truths.
func TestKeptAsDefined(t *testing.T) {
	counts := map[bool]int{}
	small(t, 300, func(d dice, s scene, day int) {
		all := truths(s.x, day)
		var bounds []cert.Range
		for mark := range s.x.Tube.Cells + 1 {
			bounds = append(bounds, boundsOf(s.x, all, mark))
		}
		for range 10 {
			u := d.use(s.x, day)
			want := keeps(s.x, u, bounds)
			counts[want]++
			if is := mustKept(t, s.x, u, day); is != want {
				t.Errorf("%v, %v, day %d: %v, but the bounds are %v", s.x, u, day, is, bounds)
			}
		}
	})
	if counts[true] < 300 || counts[false] < 300 {
		t.Errorf("too few of a kind were tried: %v", counts)
	}
}

// P7.3: each day is tried.
func TestDaysAsDefined(t *testing.T) {
	scenes(t, 8, smallLimits(), func(d dice, s scene, day int) {
		u := d.use(s.x, day)
		days := mustDays(t, s.x, u)
		for day := range api.MaxCertDay + 1 {
			if is := mustKept(t, s.x, u, day); is != has(days, day) {
				t.Errorf("%v, %v: on %v, but on the day %d: %v", s.x, u, days, day, is)
			}
		}
	})
}

// P7.3 and P7.8: the ends of the days, and days between them and beyond.
func TestEndsOfDays(t *testing.T) {
	counts := map[string]int{}
	large(t, 4000, func(d dice, s scene, day int) {
		u := d.use(s.x, day)
		days := mustDays(t, s.x, u)
		for _, day := range []int{0, days.Lo - 1, days.Lo, days.Hi, days.Hi + 1, day, d.from(0, api.MaxCertDay), api.MaxCertDay} {
			if has(to(0, api.MaxCertDay), day) && mustKept(t, s.x, u, day) != has(days, day) {
				t.Errorf("%v, %v: on %v, but not so on the day %d", s.x, u, days, day)
			}
		}
		if days.Hi < 0 {
			counts["none"]++
		} else if days.Lo > 0 {
			counts["later"]++
		} else if days.Hi < api.MaxCertDay {
			counts["at first"]++
		}
	})
	for _, kind := range []string{"none", "later", "at first"} {
		if counts[kind] < 100 {
			t.Errorf("too few of a kind were tried: %v", counts)
		}
	}
}

// P7.4, P7.10, and the document's P5 and P3: any list of readings is tried.
func TestHangsAndEnoughAsDefined(t *testing.T) {
	counts := map[string]int{}
	try := func(d dice, s scene, _ int) {
		day := d.IntN(100)
		s.x.Table, s.x.Pressures = steamAt(d.from(970, 1030))
		s.x.Drift.Lo, s.x.Drift.Hi = d.part(0, 5, 5)
		u := d.tightUse(s.x, day)
		hangs, e := cert.Hangs(s.x, u, day)
		enough, f := cert.Enough(s.x, u, day)
		if !mustKept(t, s.x, u, day) {
			counts["not kept"]++
			if e != api.ErrBound || f != api.ErrBound || len(hangs)+len(enough) != 0 {
				t.Errorf("%v, %v, day %d: %v, %v; %v, %v", s.x, u, day, hangs, e, enough, f)
			}
			return
		}
		all := lists(len(s.x.Readings))
		will := func(list []int) bool { return mustKept(t, only(s.x, list), u, day) }
		least := all[slices.IndexFunc(all, will)]
		if e != api.OK || f != api.OK || !slices.Equal(enough, least) {
			t.Errorf("%v, %v, day %d: %v; %v, %v, but %v is enough", s.x, u, day, e, enough, f, least)
		}
		var alone []int
		for n := range s.x.Readings {
			others := slices.Delete(slices.Clone(all[len(all)-1]), n, n+1)
			if !will(others) {
				alone = append(alone, n)
			}
		}
		if !slices.Equal(hangs, alone) {
			t.Errorf("%v, %v, day %d: hangs on %v, not %v", s.x, u, day, hangs, alone)
		}
		for _, n := range hangs {
			if !slices.Contains(enough, n) {
				t.Errorf("%v, %v, day %d: hangs on %d, but %v are enough", s.x, u, day, n, enough)
			}
		}
		counts["hangs"] += min(1, len(hangs))
		counts["several"] += min(1, len(enough)/2)
		if slices.ContainsFunc(all, func(list []int) bool { return slices.Compare(list, enough) < 0 && will(list) }) {
			counts["shorter, not less"]++
		}
		if len(hangs) < len(enough) {
			counts["a choice"]++
		}
	}
	small(t, 1000, try)
	scenes(t, 500, limits{cells: 10, cell: 60, width: 60, readings: 10}, try)
	for _, kind := range []string{"not kept", "hangs", "several", "shorter, not less", "a choice"} {
		if counts[kind] < 20 {
			t.Errorf("too few of a kind were tried: %v", counts)
		}
	}
}

// tightUse is one that hardly any fewer readings keep on the day.
func (d dice) tightUse(x cert.Instrument, day int) cert.Use {
	u := d.use(x, day)
	by, without := out(x, u, day), out(only(x, nil), u, day)
	u.Within = max(0, min(d.from(by, by+(without-by)/2)-d.IntN(20)/19, api.MaxCertWithin))
	return u
}

// P7.5 and P7.13.
func TestBestAsDefined(t *testing.T) {
	counts := map[api.Errno]int{}
	d := newDice(75)
	for range 2000 {
		var l []cert.Instrument
		s := d.scene(anyLimits())
		day := d.IntN(2) * d.from(0, api.MaxCertDay)
		u := d.use(s.x, day)
		for range d.IntN(api.MaxCertInstruments + 1) {
			other := s.x
			other.Drift.Lo, other.Drift.Hi = d.part(0, 10, 10)
			if d.IntN(2) == 0 {
				other.Readings = nil
			}
			l = append(l, other)
		}
		which, last := 0, -1
		for n, x := range l {
			if days := mustDays(t, x, u); mustKept(t, x, u, day) && days.Hi > last {
				which, last = n, days.Hi
			}
		}
		e := api.OK
		if last < 0 {
			last, e = 0, api.ErrStale
		}
		counts[e]++
		if a, b, f := cert.Best(l, u, day); a != which || b != last || f != e {
			t.Fatalf("%v, %v, day %d: %d, %d, %v, not %d, %d, %v", l, u, day, a, b, f, which, last, e)
		}
	}
	if counts[api.OK] < 200 || counts[api.ErrStale] < 200 {
		t.Errorf("too few of a kind were tried: %v", counts)
	}
}

// P7.6: a truth of an instrument of any size is in all bounds, and within Within on
// the days on which a use is kept.
func TestWhateverTheGlassWas(t *testing.T) {
	large(t, 4000, func(d dice, s scene, day int) {
		w, heights, total := d.truth(s, day), mustHeights(t, s.x, day), s.x.Tube.Total
		for mark, bounds := range heights {
			if part := w.part(s.x, mark); part < bounds.Lo*total || part > bounds.Hi*total {
				t.Errorf("%v, day %d, mark %d: %v is not in %v", s.x, day, mark, w, bounds)
			}
		}
		u := d.use(s.x, day)
		days := mustDays(t, s.x, u)
		if days.Hi < 0 {
			return
		}
		later := d.from(days.Lo, days.Hi)
		w = d.truth(s, later)
		for mark := u.From; mark <= u.To; mark++ {
			if part := w.part(s.x, mark) - tells(s.x, mark)*total; part < -u.Within*total || part > u.Within*total {
				t.Errorf("%v, %v, day %d, mark %d: %v", s.x, u, later, mark, w)
			}
		}
	})
}

// P7.7: with what bore shows a truth has each end, nearer than 1.
func TestTheEnds(t *testing.T) {
	large(t, 2000, func(d dice, s scene, day int) {
		steam, risen, total := steamOf(s.x), risenOn(s.x, day), s.x.Tube.Total
		for mark, bounds := range mustHeights(t, s.x, day) {
			low, _ := bore.Shows(s.x.Tube, s.x.Readings, mark, false)
			high, _ := bore.Shows(s.x.Tube, s.x.Readings, mark, true)
			least := truth{volumes: low, steam: steam.Lo, risen: risen.Hi}.part(s.x, mark) - bounds.Lo*total
			greatest := bounds.Hi*total - truth{volumes: high, steam: steam.Hi, risen: risen.Lo}.part(s.x, mark)
			if least < 0 || least >= total || greatest < 0 || greatest >= total {
				t.Errorf("%v, day %d, mark %d: %v: %d and %d parts of %d away", s.x, day, mark, bounds, least, greatest, total)
			}
		}
	})
}

// P7.8: from day to day neither end rises.
func TestDayByDay(t *testing.T) {
	large(t, 2000, func(d dice, s scene, day int) {
		for _, next := range []int{day + 1, day + 100, d.from(day, api.MaxCertDay)} {
			if next > api.MaxCertDay {
				continue
			}
			before, after := mustHeights(t, s.x, day), mustHeights(t, s.x, next)
			for mark := range before {
				if after[mark].Lo > before[mark].Lo || after[mark].Hi > before[mark].Hi {
					t.Errorf("%v, mark %d: %v on day %d, %v on day %d", s.x, mark, before[mark], day, after[mark], next)
				}
			}
		}
	})
}

// P7.9 and P7.11: what makes a use easier, or the instrument better known, leaves
// no fewer days.
func TestEasier(t *testing.T) {
	kept := 0
	large(t, 4000, func(d dice, s scene, day int) {
		u := d.use(s.x, day)
		if !mustKept(t, s.x, u, day) {
			return
		}
		kept++
		days := mustDays(t, s.x, u)
		easier := func(name string, x cert.Instrument, u cert.Use) {
			if more := mustDays(t, x, u); !mustKept(t, x, u, day) || !within(days, more) {
				t.Errorf("%v, %v, %s: %v, then %v", s.x, u, name, days, more)
			}
		}
		wider, narrower, surer, known := u, u, s.x, s.x
		wider.Within = d.from(u.Within, api.MaxCertWithin)
		easier("within more", s.x, wider)
		narrower.From, narrower.To = d.part(u.From, u.To, u.To-u.From)
		easier("with fewer marks", s.x, narrower)
		surer.Pressures.Lo, surer.Pressures.Hi = d.part(s.x.Pressures.Lo, s.x.Pressures.Hi, s.x.Pressures.Hi-s.x.Pressures.Lo)
		easier("with fewer pressures", surer, u)
		if len(s.x.Readings) < api.MaxBoreReadings {
			known.Readings = append(slices.Clone(s.x.Readings), d.thread(s))
			easier("with a reading more", known, u)
		}
	})
	if kept < 500 {
		t.Errorf("too few of a kind were tried: %d", kept)
	}
}

// P7.12: with steam at 1000, and no drift, the first mark and the last one are
// right on each day.
func TestSteamAt1000(t *testing.T) {
	large(t, 500, func(d dice, s scene, day int) {
		// Between both steps steam is rounded down to 1000.
		s.x.Table = []point.Step{{Pressure: 700, Height: 1000}, {Pressure: 800, Height: 1001}}
		s.x.Pressures.Lo, s.x.Pressures.Hi = d.part(700, 799, 99)
		s.x.Drift = to(0, 0)
		l := mustHeights(t, s.x, day)
		if last := l[len(l)-1]; l[0] != to(0, 0) || last != to(1000, 1000) {
			t.Errorf("%v, day %d: %v", s.x, day, l)
		}
	})
}

// P7.14: the reading on a scale that is nearest to the true height in a truth.
func TestNearest(t *testing.T) {
	large(t, 3000, func(d dice, s scene, day int) {
		scale, mark := d.scale(), d.IntN(s.x.Tube.Cells+1)
		part, whole := d.truth(s, day).part(s.x, mark), 1000*s.x.Tube.Total
		// At so many degrees above ice, in parts of a whole; the nearest reading is
		// a half degree away at most, two are if both are as near.
		above := part * (scale.Steam - scale.Ice)
		told := mustTold(t, s.x, scale, mark, day)
		for _, nearest := range []int{floor(2*above+whole, 2*whole), ceil(2*above-whole, 2*whole)} {
			if n := scale.Ice + nearest; n < told.Lo || n > told.Hi {
				t.Errorf("%v, day %d, mark %d on %v: %d is not of %v", s.x, day, mark, scale, n, told)
			}
		}
	})
}

// The document's P7: in another order readings leave the same bounds and days.
func TestAnyOrder(t *testing.T) {
	large(t, 1000, func(d dice, s scene, day int) {
		u, other := d.use(s.x, day), s.x
		other.Readings = slices.Clone(s.x.Readings)
		d.Shuffle(len(other.Readings), func(i, j int) {
			other.Readings[i], other.Readings[j] = other.Readings[j], other.Readings[i]
		})
		if !slices.Equal(mustHeights(t, s.x, day), mustHeights(t, other, day)) || mustDays(t, s.x, u) != mustDays(t, other, u) {
			t.Errorf("%v, %v: not as %v", s.x, u, other)
		}
	})
}
