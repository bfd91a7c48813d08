package point_test

import (
	"math/big"
	"slices"
	"testing"

	"meniscus/api"
	"meniscus/point"
)

// often hands dice to a test, until it fails.
func often(t *testing.T, many int, try func(d dice)) {
	t.Helper()
	d := newDice(1)
	for range many {
		try(d)
		if t.Failed() {
			return
		}
	}
}

func mustHeights(t *testing.T, s point.Scale, readings point.Range) point.Range {
	t.Helper()
	r, e := point.Heights(s, readings)
	if e != api.OK {
		t.Fatalf("Heights of %v, %v: %v", s, readings, e)
	}
	return r
}

func mustCorrected(t *testing.T, s point.Scale, table []point.Step, pressures, readings point.Range) point.Range {
	t.Helper()
	r, e := point.Corrected(s, table, pressures, readings)
	if e != api.OK {
		t.Fatalf("Corrected of %v, %v, %v, %v: %v", s, table, pressures, readings, e)
	}
	return r
}

func mustBoils(t *testing.T, table []point.Step, pressures point.Range) point.Range {
	t.Helper()
	r, e := point.Boils(table, pressures)
	if e != api.OK {
		t.Fatalf("Boils of %v, %v: %v", table, pressures, e)
	}
	return r
}

func mustKinds(t *testing.T, l []point.Scale, diary []point.Entry) []int {
	t.Helper()
	list, e := point.Kinds(l, diary)
	if e != api.OK {
		t.Fatalf("Kinds of %v, %v: %v", l, diary, e)
	}
	return list
}

func mustWrong(t *testing.T, l []point.Scale, diary []point.Entry) (int, []int) {
	t.Helper()
	number, list, e := point.Wrong(l, diary)
	if e != api.OK {
		t.Fatalf("Wrong of %v, %v: %v", l, diary, e)
	}
	return number, list
}

func inside(inner, outer point.Range) bool { return outer.Lo <= inner.Lo && inner.Hi <= outer.Hi }

func turned(r point.Range) point.Range { return to(-r.Hi, -r.Lo) }

func higher(r point.Range, by int) point.Range { return to(r.Lo+by, r.Hi+by) }

// wider has more readings, within the bounds.
func (d dice) wider(r point.Range) point.Range {
	return to(max(-api.MaxPointReading, r.Lo-d.IntN(4)), min(api.MaxPointReading, r.Hi+d.IntN(4)))
}

// P3.1, and the document's P2: the thousandths are as defined.
func TestHeightsAsDefined(t *testing.T) {
	often(t, 5000, func(d dice) {
		s, readings := d.scale(), d.readings()
		least, greatest := heights(s, readings)
		if got := mustHeights(t, s, readings); got != thousandths(least, greatest) {
			t.Errorf("%v, %v: %v, not %v", s, readings, got, thousandths(least, greatest))
		}
	})
}

// P3.2, P3.8: both ends can stand, what is beyond them cannot. On some small
// scales each reading around them is tried.
func TestConvertAsDefined(t *testing.T) {
	try := func(from, on point.Scale, readings point.Range, around int) {
		got, e := point.Convert(from, on, readings)
		if e == api.ErrBound {
			if !canStandBeyond(from, on, readings) {
				t.Errorf("%v, %v, %v: %v", from, on, readings, e)
			}
			return
		}
		if e != api.OK || got.Lo > got.Hi || canStandBeyond(from, on, readings) {
			t.Errorf("%v, %v, %v: %v, %v", from, on, readings, got, e)
			return
		}
		for _, end := range []int{got.Lo, got.Hi} {
			for reading := end - around; reading <= end+around; reading++ {
				if want := inside(to(reading, reading), got); canStand(from, on, readings, reading) != want {
					t.Errorf("%v, %v, %v: %v, but it is not %v that %d can stand", from, on, readings, got, want, reading)
				}
			}
		}
	}
	often(t, 3000, func(d dice) { try(d.scale(), d.scale(), d.readings(), 1) })
	often(t, 1000, func(d dice) {
		small := func() point.Scale { return scale(d.from(-6, 0), d.from(1, 6)) }
		a, b := small(), small()
		if d.IntN(2) == 0 {
			b.Ice, b.Steam = b.Steam, b.Ice
		}
		try(a, b, d.part(12), 30)
	})
}

// canStandBeyond reports whether a reading beyond the bounds can stand: a half
// degree below it, or above it, is not beyond the farthest point of such heights.
func canStandBeyond(from, on point.Scale, readings point.Range) bool {
	lowest, highest := allowed(readings)
	least, greatest := sorted(degreesOf(on, heightOf(from, lowest)), degreesOf(on, heightOf(from, highest)))
	half := big.NewRat(1, 2)
	return inOrder(rat(api.MaxPointReading+1), greatest.Add(greatest, half)) ||
		inOrder(minus(least, half), rat(-api.MaxPointReading-1))
}

// P3.3: from scale to scale, and ErrBound as soon as one is left.
func TestThroughAsDefined(t *testing.T) {
	often(t, 5000, func(d dice) {
		l, readings := d.scales(d.from(1, api.MaxPointScales)), d.readings()
		want, e := readings, api.OK
		for i := 1; i < len(l) && e == api.OK; i++ {
			want, e = point.Convert(l[i-1], l[i], want)
		}
		if got, f := point.Through(l, readings); got != want || f != e {
			t.Errorf("%v, %v: %v, %v, not %v, %v", l, readings, got, f, want, e)
		}
	})
}

// P3.4: steam, and true heights, are as defined, in each truth, and no wider.
func TestSteamAsDefined(t *testing.T) {
	often(t, 500, func(d dice) {
		s, table, readings := d.scale(), d.table(), d.readings()
		pressures := d.pressures(table)
		steam := to(steamAt(table, pressures.Lo), steamAt(table, pressures.Hi))
		if got := mustBoils(t, table, pressures); got != steam {
			t.Errorf("%v, %v: %v, not %v", table, pressures, got, steam)
		}
		var all []*big.Rat
		for h := steam.Lo; h <= steam.Hi; h++ {
			least, greatest := trueHeights(s, h, readings)
			all = append(all, least, greatest)
		}
		if got := mustCorrected(t, s, table, pressures, readings); got != thousandths(all...) {
			t.Errorf("%v, %v, %v, %v: %v, not %v", s, table, pressures, readings, got, thousandths(all...))
		}
	})
}

// P3.5, P3.6, and the document's P5 and P6: diaries are as defined.
func TestDiariesAsDefined(t *testing.T) {
	often(t, 2000, func(d dice) {
		l := d.scales(d.from(1, api.MaxPointScales))
		diary := d.diary(l[:d.from(1, len(l))], d.IntN(api.MaxPointEntries+1))
		var kinds []int
		best := 0
		for number, s := range l {
			if len(wrongFor(s, diary)) == 0 {
				kinds = append(kinds, number)
			}
			if len(wrongFor(s, diary)) < len(wrongFor(l[best], diary)) {
				best = number
			}
		}
		if got := mustKinds(t, l, diary); !slices.Equal(got, kinds) {
			t.Errorf("Kinds of %v, %v: %v, not %v", l, diary, got, kinds)
		}
		number, wrong := mustWrong(t, l, diary)
		if number != best || !slices.Equal(wrong, wrongFor(l[best], diary)) {
			t.Errorf("Wrong of %v, %v: %d, %v, not %d, %v", l, diary, number, wrong, best, wrongFor(l[best], diary))
		}
	})
}

// P3.7: each point is told.
func TestWhateverThePointIs(t *testing.T) {
	often(t, 3000, func(d dice) {
		from, on, readings := d.scale(), d.scale(), d.part(100000)
		x := d.point(readings)
		height := heightOf(from, x)
		y := degreesOf(on, height)
		half := big.NewRat(1, 2)
		near := to(ceil(minus(y, half)), floor(new(big.Rat).Add(y, half)))
		if near.Lo > near.Hi {
			t.Errorf("no reading within half a degree of %v", y)
		}
		told := mustHeights(t, from, readings)
		if !inOrder(rat(told.Lo), times(rat(1000), height), rat(told.Hi)) {
			t.Errorf("%v, %v: %v, but the height %v", from, readings, told, height)
		}
		got, e := point.Convert(from, on, readings)
		if e == api.ErrBound && canStandBeyond(from, on, readings) {
			return
		}
		if e != api.OK || !inside(near, got) {
			t.Errorf("%v, %v, %v: %v, %v, but %v", from, on, readings, got, e, near)
		}
		if again := mustHeights(t, on, near); !inOrder(rat(again.Lo), times(rat(1000), height), rat(again.Hi)) {
			t.Errorf("%v, %v: %v, but the height %v", on, near, again, height)
		}
	})
}

// P3.9, P3.10: there and back, and through others.
func TestThereAndBack(t *testing.T) {
	often(t, 3000, func(d dice) {
		from, on, other, readings := d.scale(), d.scale(), d.scale(), d.part(100000)
		if own, e := point.Convert(from, from, readings); e != api.OK || own != to(readings.Lo-1, readings.Hi+1) {
			t.Errorf("%v, %v: %v, %v", from, readings, own, e)
		}
		if alone, e := point.Through([]point.Scale{from}, readings); e != api.OK || alone != readings {
			t.Errorf("%v alone, %v: %v, %v", from, readings, alone, e)
		}
		if there, e := point.Convert(from, on, readings); e == api.OK {
			back, e := point.Convert(on, from, there)
			if e == api.OK && !inside(readings, back) {
				t.Errorf("%v, %v, %v: back as %v", from, on, readings, back)
			}
		}
		direct, e := point.Convert(from, on, readings)
		through, f := point.Through([]point.Scale{from, other, on}, readings)
		if f == api.OK && (e != api.OK || !inside(direct, through)) {
			t.Errorf("%v, %v, %v, %v: %v, but directly %v, %v", from, other, on, readings, through, direct, e)
		}
	})
}

// P3.11: with more readings, or pressures, no range is narrower.
func TestWider(t *testing.T) {
	often(t, 3000, func(d dice) {
		l, readings := d.scales(3), d.readings()
		more := d.wider(readings)
		s := l[0]
		if !inside(mustHeights(t, s, readings), mustHeights(t, s, more)) {
			t.Errorf("%v, %v, %v: narrower heights", s, readings, more)
		}
		for many := 1; many <= 3; many++ {
			narrow, e := point.Through(l[:many], readings)
			wide, f := point.Through(l[:many], more)
			if f == api.OK && (e != api.OK || !inside(narrow, wide)) {
				t.Errorf("%v, %v, %v: %v, %v, then %v", l[:many], readings, more, narrow, e, wide)
			}
		}
		table := d.table()
		some := d.pressures(table)
		all := to(d.from(table[0].Pressure, some.Lo), d.from(some.Hi, table[len(table)-1].Pressure))
		if !inside(mustBoils(t, table, some), mustBoils(t, table, all)) {
			t.Errorf("%v, %v, %v: narrower steam", table, some, all)
		}
		if !inside(mustCorrected(t, s, table, some, readings), mustCorrected(t, s, table, all, more)) {
			t.Errorf("%v, %v, %v, %v, %v, %v: narrower true heights", s, table, some, all, readings, more)
		}
	})
}

// P3.12: at a higher pressure steam is not lower; where it is at 1000, heights
// are the true ones.
func TestPressure(t *testing.T) {
	often(t, 1000, func(d dice) {
		s, table, readings := d.scale(), d.table(), d.readings()
		last := 0
		for p := table[0].Pressure; p <= table[len(table)-1].Pressure; p++ {
			steam := mustBoils(t, table, to(p, p))
			if steam.Lo < last || steam.Lo != steam.Hi {
				t.Errorf("%v, %d: %v behind %d", table, p, steam, last)
			}
			last = steam.Hi
			if steam.Lo != 1000 {
				continue
			}
			if got := mustCorrected(t, s, table, to(p, p), readings); got != mustHeights(t, s, readings) {
				t.Errorf("%v, %v, %d, %v: %v", s, table, p, readings, got)
			}
		}
	})
}

// P3.13: with the other sign, and moved.
func TestTurned(t *testing.T) {
	often(t, 3000, func(d dice) {
		a, b, readings := d.scale(), d.scale(), d.part(100000)
		there, e := point.Convert(a, b, readings)
		other, f := point.Convert(scale(-a.Ice, -a.Steam), scale(-b.Ice, -b.Steam), turned(readings))
		if other != turned(there) || f != e {
			t.Errorf("%v, %v, %v: %v, %v, turned %v, %v", a, b, readings, there, e, other, f)
		}
		more := d.from(-1000-min(a.Ice, a.Steam), 1000-max(a.Ice, a.Steam))
		moved := scale(a.Ice+more, a.Steam+more)
		if mustHeights(t, moved, higher(readings, more)) != mustHeights(t, a, readings) {
			t.Errorf("%v, %v, moved by %d: other heights", a, readings, more)
		}
		table := d.table()
		p := d.pressures(table)
		if mustCorrected(t, moved, table, p, higher(readings, more)) != mustCorrected(t, a, table, p, readings) {
			t.Errorf("%v, %v, moved by %d: other true heights", a, readings, more)
		}
	})
}

// P3.14, and the document's P7: an entry more, the wrong ones less, and any
// order of entries.
func TestEntriesMoreAndLess(t *testing.T) {
	often(t, 3000, func(d dice) {
		l := d.scales(d.from(1, api.MaxPointScales))
		diary := d.diary(l[:d.from(1, len(l))], d.from(1, api.MaxPointEntries))
		if len(diary) == 0 {
			return
		}
		kinds := mustKinds(t, l, diary)
		number, wrong := mustWrong(t, l, diary)
		fewer := diary[:len(diary)-1]
		for _, n := range kinds {
			if !slices.Contains(mustKinds(t, l, fewer), n) {
				t.Errorf("%v, %v: the scale %d explains it with the last entry alone", l, diary, n)
			}
		}
		if _, list := mustWrong(t, l, fewer); len(list) > len(wrong) {
			t.Errorf("%v, %v: fewer entries are wrong with the last one", l, diary)
		}
		var right []point.Entry
		for at, e := range diary {
			if !slices.Contains(wrong, at) {
				right = append(right, e)
			}
		}
		if !slices.Contains(mustKinds(t, l, right), number) {
			t.Errorf("%v, %v: the scale %d does not explain it without %v", l, diary, number, wrong)
		}
		order := d.Perm(len(diary))
		var mixed []point.Entry
		for _, at := range order {
			mixed = append(mixed, diary[at])
		}
		if got := mustKinds(t, l, mixed); !slices.Equal(got, kinds) {
			t.Errorf("%v, %v, %v: %v, not %v", l, diary, order, got, kinds)
		}
		scaleOfMixed, list := mustWrong(t, l, mixed)
		for i, at := range list {
			list[i] = order[at]
		}
		slices.Sort(list)
		if scaleOfMixed != number || !slices.Equal(list, wrong) {
			t.Errorf("%v, %v, %v: %d, %v, not %d, %v", l, diary, order, scaleOfMixed, list, number, wrong)
		}
	})
}
