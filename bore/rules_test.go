package bore_test

import (
	"math"
	"slices"
	"testing"

	"meniscus/api"
	"meniscus/bore"
)

// results are what each call that can have an error returns.
type results struct {
	heights, places []bore.Range
	doubt           int
	shows           []int
	knot, blame     []int
	mark, behind    int
	errors          [7]api.Errno
}

// The places of the calls in results.errors.
const (
	ofHeights = iota
	ofPlaces
	ofDoubt
	ofShows
	ofKnot
	ofBlame
	ofNext
)

func callAll(t bore.Tube, l []bore.Reading, mark int, volume bore.Range) results {
	var r results
	r.heights, r.errors[ofHeights] = bore.Heights(t, l)
	r.places, r.errors[ofPlaces] = bore.Places(t, l)
	r.doubt, r.errors[ofDoubt] = bore.Doubt(t, l)
	r.shows, r.errors[ofShows] = bore.Shows(t, l, mark, true)
	r.knot, r.errors[ofKnot] = bore.Knot(t, l)
	r.blame, r.errors[ofBlame] = bore.Blame(t, l)
	r.mark, r.behind, r.errors[ofNext] = bore.Next(t, l, volume)
	return r
}

// zeroWithErrors reports whether each result that comes with an error is zero.
func (r results) zeroWithErrors() bool {
	zero := [7]bool{
		len(r.heights) == 0, len(r.places) == 0, r.doubt == 0, len(r.shows) == 0,
		len(r.knot) == 0, len(r.blame) == 0, r.mark == 0 && r.behind == 0,
	}
	for call, e := range r.errors {
		if e != api.OK && !zero[call] {
			return false
		}
	}
	return true
}

func allWith(e api.Errno) [7]api.Errno { return [7]api.Errno{e, e, e, e, e, e, e} }

// R1 and R2, with the chapter's table of errors: each case has what its name
// says, and all that would come later.
func TestWhichErrorComesFirst(t *testing.T) {
	bad := reading(4, 4, 1, 1)
	contradicting := []bore.Reading{reading(0, 0, 30, 30)}
	range3 := allWith(api.ErrFail)
	range3[ofShows], range3[ofNext] = api.ErrRange, api.ErrRange
	range3[ofKnot], range3[ofBlame] = api.OK, api.OK
	fail := allWith(api.ErrFail)
	fail[ofKnot], fail[ofBlame] = api.OK, api.OK
	fine := allWith(api.OK)
	fine[ofKnot] = api.ErrNone
	outside := fine
	outside[ofShows], outside[ofNext] = api.ErrRange, api.ErrRange
	for _, x := range []struct {
		name   string
		t      bore.Tube
		l      []bore.Reading
		mark   int
		volume bore.Range
		want   [7]api.Errno
	}{
		{"no tube", tube(4, 20, 30, 121), slices.Repeat([]bore.Reading{bad}, 13), 5, to(2, 1), allWith(api.ErrArg)},
		{"too many readings", four(), slices.Repeat([]bore.Reading{bad}, 13), 5, to(2, 1), allWith(api.ErrLimit)},
		{"a reading of no tube", four(), append(contradicting, bad), 5, to(2, 1), allWith(api.ErrRange)},
		{"an argument out of range", four(), contradicting, 5, to(2, 1), range3},
		{"a mark below 0, a volume below 0", four(), contradicting, -1, to(-1, 1), range3},
		{"far out of range", four(), nil, math.MaxInt, to(0, math.MaxInt), outside},
		{"one out of range by 1", four(), nil, 5, to(0, 2001), outside},
		{"contradicting readings", four(), contradicting, 4, to(0, 2000), fail},
		{"nothing wrong", four(), threads(), 0, to(0, 0), fine},
		{"as many readings as there may be", four(), slices.Repeat(threads(), 6), 0, to(0, 0), fine},
	} {
		r := callAll(x.t, x.l, x.mark, x.volume)
		if r.errors != x.want {
			t.Errorf("%s: %v, not %v", x.name, r.errors, x.want)
		}
		if !r.zeroWithErrors() {
			t.Errorf("%s: results with errors: %v", x.name, r)
		}
	}
}

// What is a reading of the tube of four cells, and what is none.
func TestReadingsOfTheTube(t *testing.T) {
	for _, x := range []struct {
		r    bore.Reading
		want api.Errno
	}{
		{reading(0, 0, 0, 0), api.OK},
		{reading(3, 3, 0, 2000), api.OK},
		{reading(3, 4, 0, 2000), api.OK},
		{reading(0, 4, 2000, 2000), api.OK},
		{reading(-1, 0, 0, 0), api.ErrRange},
		{reading(4, 4, 0, 2000), api.ErrRange},
		{reading(2, 1, 0, 2000), api.ErrRange},
		{reading(0, 5, 0, 2000), api.ErrRange},
		{reading(0, -1, 0, 2000), api.ErrRange},
		{reading(0, 4, -1, 2000), api.ErrRange},
		{reading(0, 4, 0, 2001), api.ErrRange},
		{reading(0, 4, 101, 100), api.ErrRange},
		{reading(math.MinInt, math.MaxInt, math.MinInt, math.MaxInt), api.ErrRange},
		{reading(0, math.MaxInt, math.MaxInt, math.MinInt), api.ErrRange},
	} {
		if _, e := bore.Blame(four(), []bore.Reading{x.r}); e != x.want {
			t.Errorf("%v: %v, not %v", x.r, e, x.want)
		}
	}
}

// P1: no argument makes a call panic.
func TestNoArgumentPanics(t *testing.T) {
	numbers := []int{math.MinInt, -1, 0, 1, 2, 4, 10, 200, 2000, math.MaxInt}
	d := dice{state: 1}
	for range 20000 {
		pick := func() int { return numbers[d.below(len(numbers))] }
		x := tube(pick(), pick(), pick(), pick())
		if d.below(2) == 0 {
			x = four()
		}
		var l []bore.Reading
		for range d.below(15) {
			l = append(l, reading(pick(), pick(), pick(), pick()))
		}
		list := []int{pick(), pick(), pick(), pick()}[:d.below(5)]
		bore.CheckTube(x)
		bore.ProveTruth(x, l, list)
		bore.ProveKnot(x, l, list)
		if r := callAll(x, l, pick(), to(pick(), pick())); !r.zeroWithErrors() {
			t.Fatalf("%v, %v: %v", x, l, r)
		}
	}
}

// R3: a list without elements is as nil.
func TestEmptyIsNil(t *testing.T) {
	none, empty := callAll(four(), nil, 2, to(30, 40)), callAll(four(), []bore.Reading{}, 2, to(30, 40))
	if !equalResults(none, empty) {
		t.Errorf("%v, %v", none, empty)
	}
	if !bore.ProveTruth(four(), []bore.Reading{}, []int{25, 25, 25, 25}) || bore.ProveKnot(four(), []bore.Reading{}, nil) {
		t.Error("the empty list is not as nil")
	}
}

func equalResults(a, b results) bool {
	return slices.Equal(a.heights, b.heights) && slices.Equal(a.places, b.places) && a.doubt == b.doubt &&
		slices.Equal(a.shows, b.shows) && slices.Equal(a.knot, b.knot) && slices.Equal(a.blame, b.blame) &&
		a.mark == b.mark && a.behind == b.behind && a.errors == b.errors
}

// R4, and that a call is again as it was: arguments stay as they are, and what
// is written to results changes no later call.
func TestMemory(t *testing.T) {
	for _, l := range [][]bore.Reading{threads(), threads(reading(0, 2, 40, 40))} {
		held := slices.Clone(l)
		first, again := callAll(four(), l, 2, to(20, 40)), callAll(four(), l, 2, to(20, 40))
		if !equalResults(first, again) {
			t.Errorf("twice the same: %v, %v", first, again)
		}
		for _, list := range [][]bore.Range{first.heights, first.places} {
			for i := range list {
				list[i] = to(-7, -7)
			}
		}
		for _, list := range [][]int{first.shows, first.knot, first.blame} {
			list = list[:cap(list)]
			for i := range list {
				list[i] = -7
			}
		}
		if !equalResults(again, callAll(four(), l, 2, to(20, 40))) {
			t.Error("results are shared")
		}
		if !slices.Equal(l, held) {
			t.Errorf("the readings were written to: %v", l)
		}
	}
	volumes, knot := []int{20, 21, 29, 30}, []int{0, 2}
	bore.ProveTruth(four(), threads(), volumes)
	bore.ProveKnot(four(), threads(reading(0, 2, 40, 40)), knot)
	if !slices.Equal(volumes, []int{20, 21, 29, 30}) || !slices.Equal(knot, []int{0, 2}) {
		t.Errorf("lists were written to: %v, %v", volumes, knot)
	}
}
