package bore_test

import (
	"slices"
	"testing"

	"meniscus/api"
	"meniscus/bore"
)

// small hands some small tubes, with readings and all their truths, to a test.
func small(t *testing.T, many int, try func(d *dice, x bore.Tube, l []bore.Reading, all [][]int)) {
	t.Helper()
	d := dice{state: 7}
	for range many {
		x := d.smallTube()
		l := d.readings(x, d.volumes(x), d.below(6), d.from(1, 8))
		try(&d, x, l, truths(x))
		if t.Failed() {
			return
		}
	}
}

// large hands some tubes of any size to a test, with readings that have a truth,
// and this truth.
func large(t *testing.T, many int, try func(d *dice, x bore.Tube, l []bore.Reading, volumes []int)) {
	t.Helper()
	d := dice{state: 11}
	for range many {
		x := d.anyTube()
		volumes := d.volumes(x)
		l := d.readings(x, volumes, d.below(13), 1<<30)
		try(&d, x, l, volumes)
		if t.Failed() {
			return
		}
	}
}

func mustHeights(t *testing.T, x bore.Tube, l []bore.Reading) []bore.Range {
	t.Helper()
	bounds, e := bore.Heights(x, l)
	if e != api.OK || len(bounds) != x.Cells+1 {
		t.Fatalf("Heights of %v, %v: %v, %v", x, l, bounds, e)
	}
	return bounds
}

func contradicting(x bore.Tube, l []bore.Reading) bool {
	_, e := bore.Doubt(x, l)
	return e == api.ErrFail
}

// P1.1: ProveTruth is as defined, for volumes that are a truth and for others.
func TestProveTruthAsDefined(t *testing.T) {
	small(t, 2000, func(d *dice, x bore.Tube, l []bore.Reading, all [][]int) {
		volumes := slices.Clone(all[d.below(len(all))])
		want := len(ofReadings([][]int{volumes}, l)) == 1
		if bore.ProveTruth(x, l, volumes) != want {
			t.Errorf("%v, %v, %v: not %v", x, l, volumes, want)
		}
		volumes[d.below(x.Cells)]++
		if bore.ProveTruth(x, l, volumes) {
			t.Errorf("%v, %v, %v: a volume too great", x, l, volumes)
		}
	})
}

// P1.2, P1.3, P1.7, P1.8, and the document's P2: the bounds are as defined.
func TestBoundsAsDefined(t *testing.T) {
	small(t, 2000, func(d *dice, x bore.Tube, l []bore.Reading, all [][]int) {
		some := ofReadings(all, l)
		bounds, e := bore.Heights(x, l)
		doubt, f := bore.Doubt(x, l)
		if len(some) == 0 {
			if e != api.ErrFail || f != api.ErrFail {
				t.Errorf("%v, %v: %v, %v, but there is no truth", x, l, e, f)
			}
			return
		}
		want := boundsOf(x, some)
		if e != api.OK || !slices.Equal(bounds, want) || f != api.OK || doubt != widest(want) {
			t.Errorf("%v, %v: %v, %v, %d, %v, not %v", x, l, bounds, e, doubt, f, want)
		}
		checkShows(t, x, l)
	})
}

// P1.4, P1.5, P1.11, P1.12, and the document's P5 and P6: any list is tried.
func TestKnotsAndBlameAsDefined(t *testing.T) {
	small(t, 400, func(d *dice, x bore.Tube, l []bore.Reading, all [][]int) {
		blame, e := bore.Blame(x, l)
		if e != api.OK {
			t.Fatalf("Blame of %v, %v: %v", x, l, e)
		}
		fails := func(l []bore.Reading) bool { return len(ofReadings(all, l)) == 0 }
		if contradicting(x, except(l, blame)) {
			t.Errorf("%v, %v: without %v there is a knot", x, l, blame)
		}
		every := lists(len(l))
		least := slices.IndexFunc(every, func(list []int) bool { return !fails(except(l, list)) })
		if !slices.Equal(every[least], blame) {
			t.Errorf("%v, %v: %v are the fewest, not %v", x, l, every[least], blame)
		}
		knot, e := bore.Knot(x, l)
		if fails(l) && (e != api.OK || !bore.ProveKnot(x, l, knot)) || !fails(l) && (e != api.ErrNone || len(knot) != 0) {
			t.Errorf("Knot of %v, %v: %v, %v", x, l, knot, e)
		}
		for _, list := range every {
			want := isKnot(l, list, fails)
			if bore.ProveKnot(x, l, list) != want {
				t.Errorf("%v, %v: the knot %v: not %v", x, l, list, want)
			}
			if want && !slices.ContainsFunc(list, func(n int) bool { return slices.Contains(blame, n) }) {
				t.Errorf("%v, %v: the knot %v has none of %v", x, l, list, blame)
			}
		}
	})
}

func isKnot(l []bore.Reading, list []int, fails func([]bore.Reading) bool) bool {
	knot := only(l, list)
	if !fails(knot) {
		return false
	}
	for at := range knot {
		if fails(slices.Delete(slices.Clone(knot), at, at+1)) {
			return false
		}
	}
	return true
}

// P1.6: the best mark, and the doubt behind it, are as defined.
func TestNextAsDefined(t *testing.T) {
	small(t, 600, func(d *dice, x bore.Tube, l []bore.Reading, all [][]int) {
		some := ofReadings(all, l)
		volume := to(d.from(0, x.Total), x.Total+d.below(2))
		if d.below(3) > 0 {
			volume.Hi = min(volume.Hi, volume.Lo+d.below(3))
		}
		mark, doubt, e := bore.Next(x, l, volume)
		if len(some) == 0 {
			if e != api.ErrFail {
				t.Errorf("%v, %v: %v, but there is no truth", x, l, e)
			}
			return
		}
		var behind []int
		for from := range x.Cells {
			behind = append(behind, doubtBehind(x, some, from, volume))
		}
		least := slices.Min(behind)
		if e != api.OK || mark != slices.Index(behind, least) || doubt != least {
			t.Errorf("%v, %v, %v: %d, %d, %v, of %v", x, l, volume, mark, doubt, e, behind)
		}
	})
}

func doubtBehind(x bore.Tube, some [][]int, from int, volume bore.Range) int {
	doubt := 0
	for in := from; in <= x.Cells; in++ {
		more := ofReadings(some, []bore.Reading{{From: from, In: in, Volume: volume}})
		if len(more) > 0 {
			doubt = max(doubt, widest(boundsOf(x, more)))
		}
	}
	return doubt
}

// P1.3, P1.7, P1.8 for tubes of any size; P4: no volume is lost.
func TestWhateverTheBoreIs(t *testing.T) {
	large(t, 500, func(d *dice, x bore.Tube, l []bore.Reading, volumes []int) {
		bounds := mustHeights(t, x, l)
		places, e := bore.Places(x, l)
		if e != api.OK || len(places) != len(bounds) {
			t.Fatalf("Places of %v, %v: %v, %v", x, l, places, e)
		}
		for mark := range bounds {
			h := sum(volumes[:mark])
			if !has(bounds[mark], h) || !has(places[mark], 1000*x.Cells*h/x.Total) {
				t.Errorf("%v, %v: the mark %d at %d: %v, %v", x, l, mark, h, bounds[mark], places[mark])
			}
		}
		if bounds[0] != to(0, 0) || bounds[x.Cells] != to(x.Total, x.Total) {
			t.Errorf("%v, %v: the outer marks: %v", x, l, bounds)
		}
		checkShows(t, x, l)
	})
}

func has(r bore.Range, n int) bool { return r.Lo <= n && n <= r.Hi }

func inside(inner, outer bore.Range) bool { return outer.Lo <= inner.Lo && inner.Hi <= outer.Hi }

// P1.9
func TestMoreReadings(t *testing.T) {
	large(t, 500, func(d *dice, x bore.Tube, l []bore.Reading, volumes []int) {
		before := mustHeights(t, x, l)
		narrower := slices.Clone(l)
		for n, r := range narrower {
			v := d.from(r.Volume.Lo, r.Volume.Hi)
			narrower[n].Volume = to(d.from(r.Volume.Lo, v), d.from(v, r.Volume.Hi))
		}
		one := d.readings(x, volumes, 1, 3)
		for _, more := range [][]bore.Reading{narrower, append(slices.Clone(l), one...)} {
			if len(more) > api.MaxBoreReadings || contradicting(x, more) {
				continue
			}
			for mark, b := range mustHeights(t, x, more) {
				if !inside(b, before[mark]) {
					t.Errorf("%v, %v to %v: the mark %d: %v, behind %v", x, l, more, mark, b, before[mark])
				}
			}
		}
		for n := range l {
			mustHeights(t, x, except(l, []int{n}))
		}
	})
}

// P1.10, and the document's P7.
func TestOrderOfReadings(t *testing.T) {
	large(t, 500, func(d *dice, x bore.Tube, l []bore.Reading, volumes []int) {
		l = append(l, d.readings(x, volumes, 1, 2)...)
		l = l[:min(len(l), api.MaxBoreReadings)]
		other := slices.Clone(l)
		for n := range other {
			k := d.below(n + 1)
			other[n], other[k] = other[k], other[n]
		}
		for len(other) < api.MaxBoreReadings && d.below(2) == 0 {
			other = append(other, other[d.below(len(other))])
		}
		volume := to(d.below(50), 50)
		first, second := callAll(x, l, 0, volume), callAll(x, other, 0, volume)
		// Which readings are named depends on their numbers.
		first.knot, second.knot = nil, nil
		first.blame, second.blame = nil, nil
		if !equalResults(first, second) {
			t.Errorf("%v, %v: %v, and %v: %v", x, l, first, other, second)
		}
	})
}

// P1.13
func TestNoReading(t *testing.T) {
	large(t, 500, func(d *dice, x bore.Tube, _ []bore.Reading, _ []int) {
		for k, b := range mustHeights(t, x, nil) {
			others := x.Cells - k
			lo := max(k*x.Cell.Lo, x.Total-others*x.Cell.Hi)
			hi := min(k*x.Cell.Hi, x.Total-others*x.Cell.Lo)
			if b != to(lo, hi) {
				t.Errorf("%v: the mark %d: %v, not %v", x, k, b, to(lo, hi))
			}
		}
	})
}

// P1.14: what the thread shows in the truth leaves no more doubt than was told,
// and from each other mark something that it can show leaves as much.
func TestNextThread(t *testing.T) {
	large(t, 200, func(d *dice, x bore.Tube, l []bore.Reading, volumes []int) {
		l = l[:min(len(l), api.MaxBoreReadings-1)]
		v := d.from(0, min(x.Total+2, 2000))
		volume := to(max(0, v-d.below(3)), min(2000, v+d.below(3)))
		mark, told, e := bore.Next(x, l, volume)
		if e != api.OK || mark < 0 || mark >= x.Cells {
			t.Fatalf("Next of %v, %v, %v: %d, %v", x, l, volume, mark, e)
		}
		seen := bore.Reading{From: mark, In: shown(volumes, mark, v), Volume: volume}
		if doubt, e := bore.Doubt(x, append(slices.Clone(l), seen)); e != api.OK || doubt > told {
			t.Errorf("%v, %v, then %v: %d, %v, told was %d", x, l, seen, doubt, e, told)
		}
		for from := range x.Cells {
			greatest := 0
			for in := from; in <= x.Cells; in++ {
				r := bore.Reading{From: from, In: in, Volume: volume}
				doubt, _ := bore.Doubt(x, append(slices.Clone(l), r))
				greatest = max(greatest, doubt)
			}
			if greatest < told || from < mark && greatest == told || from == mark && greatest != told {
				t.Errorf("%v, %v, %v: from the mark %d %d, told was %d from %d", x, l, volume, from, greatest, told, mark)
			}
		}
	})
}

// P1.15
func TestScaled(t *testing.T) {
	small(t, 2000, func(d *dice, x bore.Tube, l []bore.Reading, all [][]int) {
		if contradicting(x, l) {
			return
		}
		by := d.from(1, 10)
		y := tube(x.Cells, by*x.Cell.Lo, by*x.Cell.Hi, by*x.Total)
		var m []bore.Reading
		for _, r := range l {
			m = append(m, reading(r.From, r.In, by*r.Volume.Lo, by*r.Volume.Hi))
		}
		scaled := mustHeights(t, y, m)
		for mark, b := range mustHeights(t, x, l) {
			if !inside(to(by*b.Lo, by*b.Hi), scaled[mark]) {
				t.Errorf("%v, %v, by %d: the mark %d: %v, then %v", x, l, by, mark, b, scaled[mark])
			}
		}
	})
}

// P5 at the limit: blame among as many readings as there may be, each of which
// is wrong by itself, or half of which contradict the others.
func TestBlameAmongTwelve(t *testing.T) {
	x := tube(10, 20, 30, 250)
	var each, half []bore.Reading
	for n := range api.MaxBoreReadings {
		each = append(each, reading(n%10, n%10, 30, 30))
		half = append(half, reading(0, n%2, 25-n%2, 25-n%2))
	}
	if got, e := bore.Blame(x, each); e != api.OK || !slices.Equal(got, []int{0, 1, 2, 3, 4, 5, 6, 7, 8, 9, 10, 11}) {
		t.Errorf("each is wrong: %v, %v", got, e)
	}
	if got, e := bore.Blame(x, half); e != api.OK || !slices.Equal(got, []int{0, 2, 4, 6, 8, 10}) {
		t.Errorf("half of them are: %v, %v", got, e)
	}
}
