package gaps_test

import (
	"testing"

	"meniscus/gaps"
)

// line has things of which each one is 1 to 3 above the one before it.
func line(things int) gaps.Gaps {
	g := gaps.Gaps{Things: things}
	for low := range things {
		for high := low; high < things; high++ {
			g.Most[low][high] = 3 * (high - low)
			g.Most[high][low] = low - high
		}
	}
	return g
}

// among reports whether the places are some that the gaps tell of line's things.
func among(g gaps.Gaps, places []int) bool {
	for i, low := range places {
		for j, high := range places {
			if high-low > g.Most[i][j] {
				return false
			}
		}
	}
	return true
}

// places are all of three things, the first one at 0, that line allows.
func places() [][]int {
	var all [][]int
	for first := 1; first <= 3; first++ {
		for second := first + 1; second <= first+3; second++ {
			all = append(all, []int{0, first, second})
		}
	}
	return all
}

// Whatever is noted of three things, their gaps are the greatest of all places
// that are left, and what cannot be is told.
func TestLimit(t *testing.T) {
	for from := range 3 {
		for to := range 3 {
			for most := -8; most <= 8; most++ {
				if from == to {
					continue
				}
				g, left := line(3), [][]int{}
				for _, p := range places() {
					if p[to]-p[from] <= most {
						left = append(left, p)
					}
				}
				if can := g.Can(from, to, most); can != (len(left) > 0) {
					t.Errorf("%d can be at most %d above %d: %v", to, most, from, can)
				}
				if ok := g.Limit(from, to, most); ok != (len(left) > 0) {
					t.Errorf("%d is at most %d above %d: %v", to, most, from, ok)
				} else if ok {
					checkReached(t, g, left)
				}
			}
		}
	}
}

func checkReached(t *testing.T, g gaps.Gaps, left [][]int) {
	t.Helper()
	for i := range 3 {
		for j := range 3 {
			most := left[0][j] - left[0][i]
			for _, p := range left {
				most = max(most, p[j]-p[i])
			}
			if g.Most[i][j] != most {
				t.Errorf("%v: %d can be %d above %d, at most", g, j, most, i)
			}
		}
		if g.Lowest(i) != -g.Most[i][0] || g.Highest(i) != g.Most[0][i] {
			t.Errorf("%v: %d is from %d to %d", g, i, g.Lowest(i), g.Highest(i))
		}
	}
	for _, p := range places() {
		is := false
		for _, q := range left {
			is = is || p[1] == q[1] && p[2] == q[2]
		}
		if among(g, p) != is {
			t.Errorf("%v: the places %v: not %v", g, p, is)
		}
	}
}

// As many things as there may be.
func TestMaxThings(t *testing.T) {
	g := line(gaps.MaxThings)
	last := gaps.MaxThings - 1
	if !g.Limit(0, last, last) || g.Lowest(last) != last || g.Highest(last) != last || g.Highest(5) != 5 {
		t.Errorf("%v", g)
	}
	if g.Limit(0, last, last-1) {
		t.Errorf("%v", g)
	}
}
