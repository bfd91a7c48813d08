package lists_test

import (
	"math"
	"slices"
	"testing"

	"meniscus/lists"
)

func TestAll(t *testing.T) {
	even := func(n int) bool { return n%2 == 0 }
	for _, x := range []struct {
		list []int
		want bool
	}{
		{nil, true}, {[]int{2}, true}, {[]int{2, 4, 6}, true}, {[]int{1}, false}, {[]int{1, 2}, false}, {[]int{2, 1}, false},
	} {
		if lists.All(x.list, even) != x.want {
			t.Errorf("%v: not %v", x.list, x.want)
		}
	}
}

func TestInOrder(t *testing.T) {
	rises := func(element, next int) bool { return element < next }
	for _, x := range []struct {
		list []int
		want bool
	}{
		{nil, true}, {[]int{2}, true}, {[]int{2, 4, 6}, true}, {[]int{2, 2}, false}, {[]int{4, 2, 6}, false}, {[]int{2, 4, 3}, false},
	} {
		if lists.InOrder(x.list, rises) != x.want {
			t.Errorf("%v: not %v", x.list, x.want)
		}
	}
}

func TestRises(t *testing.T) {
	for _, x := range []struct {
		numbers []int
		want    bool
	}{
		{nil, true}, {[]int{-2}, true}, {[]int{math.MinInt, -1, 0, math.MaxInt}, true}, {[]int{2, 2}, false}, {[]int{2, 4, 4}, false}, {[]int{2, 1, 3}, false},
	} {
		if lists.Rises(x.numbers) != x.want {
			t.Errorf("%v: not %v", x.numbers, x.want)
		}
	}
}

func TestLeastAndGreatest(t *testing.T) {
	for _, x := range []struct {
		list            []int
		least, greatest int
	}{
		{[]int{3}, 3, 3}, {[]int{3, 5, -2}, -2, 5}, {[]int{-2, 3}, -2, 3}, {[]int{7, 7}, 7, 7}, {[]int{math.MaxInt, math.MinInt}, math.MinInt, math.MaxInt},
	} {
		first, others := x.list[0], x.list[1:]
		if got := lists.Least(first, others...); got != x.least {
			t.Errorf("the least of %v: %d", x.list, got)
		}
		if got := lists.Greatest(first, others...); got != x.greatest {
			t.Errorf("the greatest of %v: %d", x.list, got)
		}
	}
}

func TestSum(t *testing.T) {
	for _, x := range []struct {
		numbers []int
		want    int
	}{
		{nil, 0}, {[]int{3}, 3}, {[]int{3, 5, -2}, 6}, {[]int{math.MaxInt, math.MinInt}, -1},
	} {
		if got := lists.Sum(x.numbers...); got != x.want {
			t.Errorf("the sum of %v: %d", x.numbers, got)
		}
	}
}

func TestChoices(t *testing.T) {
	for _, x := range []struct {
		end  int
		want [][]int
	}{
		{0, [][]int{nil}},
		{1, [][]int{nil, {0}}},
		{3, [][]int{nil, {0}, {1}, {2}, {0, 1}, {0, 2}, {1, 2}, {0, 1, 2}}},
	} {
		if got := slices.Collect(lists.Choices(x.end)); !slices.EqualFunc(got, x.want, slices.Equal[[]int]) {
			t.Errorf("below %d: %v", x.end, got)
		}
	}
}

// All lists are handed out once, in their order, and can be kept.
func TestManyChoices(t *testing.T) {
	all := slices.Collect(lists.Choices(8))
	inOrder := func(a, b []int) bool {
		return len(a) < len(b) || len(a) == len(b) && slices.Compare(a, b) < 0
	}
	below := func(numbers []int) bool {
		return lists.Rises(numbers) && lists.All(numbers, func(n int) bool { return 0 <= n && n < 8 })
	}
	if len(all) != 1<<8 || !lists.InOrder(all, inOrder) || !lists.All(all, below) {
		t.Errorf("%v", all)
	}
}

// Who stops asks for no more.
func TestChoicesLeft(t *testing.T) {
	for stop := range 1 << 4 {
		asked := 0
		for range lists.Choices(4) {
			if asked++; asked == stop+1 {
				break
			}
		}
		if asked != stop+1 {
			t.Errorf("left behind %d: %d", stop+1, asked)
		}
	}
}
