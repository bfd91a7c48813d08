package bore_test

import (
	"math"
	"slices"
	"testing"

	"meniscus/api"
	"meniscus/bore"
)

func to(lo, hi int) bore.Range { return bore.Range{Lo: lo, Hi: hi} }

func tube(cells, lo, hi, total int) bore.Tube {
	return bore.Tube{Cells: cells, Total: total, Cell: to(lo, hi)}
}

func reading(from, in, lo, hi int) bore.Reading {
	return bore.Reading{From: from, In: in, Volume: to(lo, hi)}
}

// four, and the readings of threads, are the chapter's examples; so is two.
func four() bore.Tube { return tube(4, 20, 30, 100) }

func threads(more ...bore.Reading) []bore.Reading {
	return append([]bore.Reading{reading(0, 1, 40, 40), reading(2, 3, 48, 50)}, more...)
}

func two() bore.Tube { return tube(2, 20, 30, 50) }

func TestErrnoError(t *testing.T) {
	for e, want := range map[api.Errno]string{api.OK: "mark 0", api.ErrArg: "mark 1", api.ErrStale: "mark 11", -7: "mark -7"} {
		if got := e.Error(); got != want {
			t.Errorf("%d: %q, not %q", int(e), got, want)
		}
	}
}

// P1.1
func TestCheckTube(t *testing.T) {
	for _, x := range []struct {
		t    bore.Tube
		want api.Errno
	}{
		{four(), api.OK},
		{tube(1, 1, 1, 1), api.OK},
		{tube(10, 200, 200, 2000), api.OK},
		{tube(10, 1, 200, 10), api.OK},
		{tube(4, 20, 30, 80), api.OK},
		{tube(4, 20, 30, 120), api.OK},
		{tube(4, 20, 30, 79), api.ErrArg},
		{tube(4, 20, 30, 121), api.ErrArg},
		{tube(0, 20, 30, 0), api.ErrArg},
		{tube(-1, 20, 30, -25), api.ErrArg},
		{tube(11, 1, 30, 100), api.ErrArg},
		{tube(4, 0, 30, 100), api.ErrArg},
		{tube(4, -20, 30, 100), api.ErrArg},
		{tube(4, 30, 20, 100), api.ErrArg},
		{tube(4, 20, 201, 100), api.ErrArg},
		{tube(10, 200, 200, 2001), api.ErrArg},
		{bore.Tube{}, api.ErrArg},
		// The products of these ends would not fit into an int.
		{tube(4, 1, math.MaxInt, 100), api.ErrArg},
		{tube(math.MaxInt, 1, 2, 100), api.ErrArg},
		{tube(4, math.MinInt, math.MaxInt, 0), api.ErrArg},
	} {
		if e := bore.CheckTube(x.t); e != x.want {
			t.Errorf("CheckTube of %v: %v, not %v", x.t, e, x.want)
		}
	}
}

// P1.1
func TestProveTruth(t *testing.T) {
	thirteen := slices.Repeat([]bore.Reading{reading(0, 4, 100, 100)}, 13)
	for _, x := range []struct {
		name    string
		t       bore.Tube
		l       []bore.Reading
		volumes []int
		want    bool
	}{
		{"no readings", four(), nil, []int{20, 20, 30, 30}, true},
		{"the examples' readings", four(), threads(), []int{20, 21, 29, 30}, true},
		{"the mark 2 is not above 40", four(), threads(), []int{20, 20, 30, 30}, false},
		{"the thread of 50 fills the cells 2 and 3", four(), threads(), []int{30, 22, 20, 28}, false},
		{"one number of the volume is enough", four(), threads(), []int{30, 21, 20, 29}, true},
		{"a cell is too great", four(), nil, []int{20, 20, 29, 31}, false},
		{"a cell is too small", four(), nil, []int{19, 21, 30, 30}, false},
		{"the total is less", four(), nil, []int{20, 20, 29, 30}, false},
		{"a volume is missing", four(), nil, []int{20, 20, 30}, false},
		{"a volume too many", four(), nil, []int{20, 20, 20, 20, 20}, false},
		{"a volume beyond the last cell", four(), nil, []int{25, 25, 25, 25, 25}, false},
		{"no volumes", four(), nil, nil, false},
		{"volumes that wrap around", four(), nil, []int{math.MaxInt, math.MaxInt, 30, 72}, false},
		{"no tube", tube(4, 20, 30, 121), nil, []int{30, 30, 30, 31}, false},
		{"a reading from the last mark", four(), []bore.Reading{reading(4, 4, 0, 0)}, []int{25, 25, 25, 25}, false},
		{"as many readings as there may be", four(), thirteen[:12], []int{25, 25, 25, 25}, true},
		{"too many readings", four(), thirteen, []int{25, 25, 25, 25}, false},
		{"a thread that fills the tube", four(), []bore.Reading{reading(0, 4, 100, 100)}, []int{25, 25, 25, 25}, true},
		{"a thread that does not", four(), []bore.Reading{reading(0, 4, 0, 99)}, []int{25, 25, 25, 25}, false},
		{"a thread that ends on a mark is in the cell above", four(), []bore.Reading{reading(1, 2, 25, 25)}, []int{25, 25, 25, 25}, true},
		{"and not in the one below", four(), []bore.Reading{reading(1, 1, 25, 25)}, []int{25, 25, 25, 25}, false},
		{"a thread of nothing", four(), []bore.Reading{reading(3, 3, 0, 0)}, []int{25, 25, 25, 25}, true},
	} {
		if got := bore.ProveTruth(x.t, x.l, x.volumes); got != x.want {
			t.Errorf("%s: %v", x.name, got)
		}
	}
}

// P1.2: the chapter's examples, and others that were worked out by hand.
func TestHeights(t *testing.T) {
	for _, x := range []struct {
		name string
		t    bore.Tube
		l    []bore.Reading
		want []bore.Range
	}{
		{"the example", four(), threads(), []bore.Range{to(0, 0), to(20, 30), to(41, 51), to(70, 80), to(100, 100)}},
		{"no readings", four(), nil, []bore.Range{to(0, 0), to(20, 30), to(40, 60), to(70, 80), to(100, 100)}},
		{"the cell 1 has 23 at least", four(), []bore.Reading{reading(1, 1, 22, 24)}, []bore.Range{to(0, 0), to(20, 30), to(43, 60), to(70, 80), to(100, 100)}},
		{"the last cell has 22 at most", four(), []bore.Reading{reading(3, 4, 21, 22)}, []bore.Range{to(0, 0), to(20, 30), to(48, 60), to(78, 80), to(100, 100)}},
		{"two readings leave one truth", two(), []bore.Reading{reading(0, 0, 23, 23), reading(1, 1, 25, 25)}, []bore.Range{to(0, 0), to(24, 24), to(50, 50)}},
		{"one cell", tube(1, 5, 9, 7), nil, []bore.Range{to(0, 0), to(7, 7)}},
		{"all cells as small as they can be", tube(3, 7, 9, 21), nil, []bore.Range{to(0, 0), to(7, 7), to(14, 14), to(21, 21)}},
	} {
		got, e := bore.Heights(x.t, x.l)
		if e != api.OK || !slices.Equal(got, x.want) {
			t.Errorf("%s: %v, %v, not %v", x.name, got, e, x.want)
		}
	}
}

// P1.2
func TestPlaces(t *testing.T) {
	got, e := bore.Places(four(), threads())
	want := []bore.Range{to(0, 0), to(800, 1200), to(1640, 2040), to(2800, 3200), to(4000, 4000)}
	if e != api.OK || !slices.Equal(got, want) {
		t.Errorf("the example: %v, %v", got, e)
	}
	// 3000 times 7, 8, 14 and 15, divided by 22, is not whole.
	got, e = bore.Places(tube(3, 7, 8, 22), nil)
	want = []bore.Range{to(0, 0), to(954, 1090), to(1909, 2045), to(3000, 3000)}
	if e != api.OK || !slices.Equal(got, want) {
		t.Errorf("places that are rounded: %v, %v", got, e)
	}
}

// P1.2
func TestDoubt(t *testing.T) {
	for _, x := range []struct {
		t    bore.Tube
		l    []bore.Reading
		want int
	}{
		{four(), threads(), 10},
		{four(), nil, 20},
		{two(), []bore.Reading{reading(0, 0, 23, 23), reading(1, 1, 25, 25)}, 0},
	} {
		if got, e := bore.Doubt(x.t, x.l); got != x.want || e != api.OK {
			t.Errorf("Doubt of %v, %v: %d, %v, not %d", x.t, x.l, got, e, x.want)
		}
	}
}

// P1.3
func TestShows(t *testing.T) {
	for _, l := range [][]bore.Reading{nil, threads(), {reading(1, 1, 22, 24)}, {reading(3, 4, 21, 22)}} {
		checkShows(t, four(), l)
	}
}

// checkShows holds what Shows tells of each mark against Heights and ProveTruth.
func checkShows(t *testing.T, x bore.Tube, l []bore.Reading) {
	t.Helper()
	bounds, e := bore.Heights(x, l)
	if e != api.OK || len(bounds) != x.Cells+1 {
		t.Errorf("Heights of %v, %v: %v, %v", x, l, bounds, e)
		return
	}
	for mark, b := range bounds {
		low, e := bore.Shows(x, l, mark, false)
		if e != api.OK || !bore.ProveTruth(x, l, low) || sum(low[:mark]) != b.Lo {
			t.Errorf("the lowest mark %d of %v, %v: %v, %v, not at %d", mark, x, l, low, e, b.Lo)
		}
		high, e := bore.Shows(x, l, mark, true)
		if e != api.OK || !bore.ProveTruth(x, l, high) || sum(high[:mark]) != b.Hi {
			t.Errorf("the highest mark %d of %v, %v: %v, %v, not at %d", mark, x, l, high, e, b.Hi)
		}
	}
}

func sum(volumes []int) int {
	n := 0
	for _, v := range volumes {
		n += v
	}
	return n
}

// P1.4, P1.5
func TestKnotAndBlame(t *testing.T) {
	wrong := threads(reading(0, 2, 40, 40))
	alone := []bore.Reading{reading(0, 0, 30, 30), reading(1, 3, 30, 30)}
	for _, x := range []struct {
		name  string
		l     []bore.Reading
		knots [][]int
		blame []int
	}{
		{"no readings", nil, nil, nil},
		{"readings with a truth", threads(), nil, nil},
		{"the example", wrong, [][]int{{0, 2}}, []int{0}},
		{"one that is wrong by itself", alone[:1], [][]int{{0}}, []int{0}},
		{"two that are", alone, [][]int{{0}, {1}}, []int{0, 1}},
		{"these behind two others", append(threads(), alone...), [][]int{{2}, {3}}, []int{2, 3}},
		{"two against one", threads(reading(0, 1, 40, 40), reading(0, 2, 40, 40)), [][]int{{0, 3}, {2, 3}}, []int{3}},
	} {
		got, e := bore.Blame(four(), x.l)
		if e != api.OK || !slices.Equal(got, x.blame) {
			t.Errorf("Blame, %s: %v, %v, not %v", x.name, got, e, x.blame)
		}
		knot, e := bore.Knot(four(), x.l)
		if x.knots == nil && (e != api.ErrNone || len(knot) != 0) {
			t.Errorf("Knot, %s: %v, %v", x.name, knot, e)
		}
		found := slices.ContainsFunc(x.knots, func(k []int) bool { return slices.Equal(k, knot) })
		if x.knots != nil && (e != api.OK || !found || !bore.ProveKnot(four(), x.l, knot)) {
			t.Errorf("Knot, %s: %v, %v, none of %v", x.name, knot, e, x.knots)
		}
	}
}

// P1.4
func TestProveKnot(t *testing.T) {
	wrong := threads(reading(0, 2, 40, 40))
	alone := []bore.Reading{reading(0, 0, 30, 30), reading(1, 3, 30, 30)}
	many := slices.Repeat([]bore.Reading{reading(0, 0, 30, 30)}, 13)
	for _, x := range []struct {
		name string
		t    bore.Tube
		l    []bore.Reading
		knot []int
		want bool
	}{
		{"the example", four(), wrong, []int{0, 2}, true},
		{"one too many", four(), wrong, []int{0, 1, 2}, false},
		{"one too few", four(), wrong, []int{0}, false},
		{"readings with a truth", four(), wrong, []int{0, 1}, false},
		{"not rising", four(), wrong, []int{2, 0}, false},
		{"a number twice", four(), wrong, []int{0, 0, 2}, false},
		{"no such number", four(), wrong, []int{0, 3}, false},
		{"a number below 0", four(), wrong, []int{-1, 0, 2}, false},
		{"numbers far away", four(), wrong, []int{math.MinInt, 0, 2, math.MaxInt}, false},
		{"the empty list", four(), wrong, nil, false},
		{"the empty list of none", four(), nil, []int{}, false},
		{"alone", four(), alone, []int{0}, true},
		{"the other one alone", four(), alone, []int{1}, true},
		{"both", four(), alone, []int{0, 1}, false},
		{"one twice", four(), alone, []int{0, 0}, false},
		{"as many readings as there may be", four(), many[:12], []int{11}, true},
		{"too many readings", four(), many, []int{11}, false},
		{"no tube", tube(4, 20, 30, 121), alone, []int{0}, false},
		{"no reading of the tube", four(), append(alone, reading(4, 4, 1, 1)), []int{0}, false},
	} {
		if got := bore.ProveKnot(x.t, x.l, x.knot); got != x.want {
			t.Errorf("%s: %v", x.name, got)
		}
	}
}

// P1.6
func TestNext(t *testing.T) {
	full := slices.Repeat([]bore.Reading{reading(0, 0, 23, 23)}, 12)
	for _, x := range []struct {
		name        string
		l           []bore.Reading
		volume      bore.Range
		mark, doubt int
	}{
		{"the example", nil, to(25, 25), 0, 5},
		{"a thread that ends beyond the mark 1 for sure", nil, to(30, 30), 0, 10},
		{"a thread of no certain volume", nil, to(20, 22), 0, 9},
		{"the first cell has 24 to 30", full[:1], to(25, 25), 0, 4},
		{"the first cell has 24 at most", []bore.Reading{reading(1, 1, 25, 25)}, to(22, 22), 0, 2},
		{"and the mark 1 tells more", []bore.Reading{reading(1, 1, 25, 25)}, to(27, 27), 1, 2},
		{"one reading more than there may be", full, to(25, 25), 0, 4},
		{"nothing", nil, to(0, 0), 0, 10},
		{"more than there is room for", nil, to(2000, 2000), 0, 10},
	} {
		mark, doubt, e := bore.Next(two(), x.l, x.volume)
		if mark != x.mark || doubt != x.doubt || e != api.OK {
			t.Errorf("%s: %d, %d, %v, not %d, %d", x.name, mark, doubt, e, x.mark, x.doubt)
		}
	}
}
