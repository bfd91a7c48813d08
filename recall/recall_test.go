package recall_test

import (
	"math"
	"slices"
	"testing"

	"meniscus/api"
	"meniscus/recall"
)

func to(lo, hi int) recall.Range { return recall.Range{Lo: lo, Hi: hi} }

func sale(from, to, many, first, last int) recall.Sale {
	return recall.Sale{From: from, To: to, Many: many, Days: recall.Range{Lo: first, Hi: last}}
}

func batch(owners, total int, sales ...recall.Sale) recall.Batch {
	return recall.Batch{Owners: owners, Total: total, Sales: sales}
}

// example is the chapter's.
func example() recall.Batch {
	return batch(4, 10, sale(0, 1, 6, 1, 3), sale(1, 2, 4, 2, 2), sale(0, 3, 4, 2, 5), sale(2, 3, 3, 4, 6))
}

// greatest has all as great as it may be: all pieces go round.
func greatest() recall.Batch {
	b := batch(6, 1000)
	for number := range 8 {
		b.Sales = append(b.Sales, sale(number%6, (number+1)%6, 1000, 0, 100))
	}
	return b
}

// P9.3: the chapter's example (and the document's example 9), and edges.
func TestWhen(t *testing.T) {
	for _, c := range []struct {
		name string
		b    recall.Batch
		want []recall.Range
	}{
		{"the example", example(), []recall.Range{to(1, 2), to(2, 2), to(2, 5), to(4, 6)}},
		{"no sales", batch(1, 0), nil},
		{"one sale", batch(2, 5, sale(0, 1, 5, 3, 9)), []recall.Range{to(3, 9)}},
		{"one sale on one day", batch(2, 5, sale(0, 1, 5, 7, 7)), []recall.Range{to(7, 7)}},
		{"the first and the last day", batch(2, 5, sale(0, 1, 1, 0, 0), sale(0, 1, 1, 100, 100), sale(0, 1, 1, 0, 100)), []recall.Range{to(0, 0), to(100, 100), to(0, 100)}},
		{"all on one day, though listed otherwise", batch(4, 2, sale(2, 3, 2, 4, 4), sale(1, 2, 2, 4, 4), sale(0, 1, 2, 4, 4)), []recall.Range{to(4, 4), to(4, 4), to(4, 4)}},
		{"on the day on which they are bought", batch(3, 2, sale(1, 2, 2, 0, 9), sale(0, 1, 2, 5, 8)), []recall.Range{to(5, 9), to(5, 8)}},
		{"no later than they are sold on", batch(3, 2, sale(1, 2, 2, 2, 4), sale(0, 1, 2, 0, 9)), []recall.Range{to(2, 4), to(0, 4)}},
		{"one of two is enough", batch(3, 4, sale(0, 1, 2, 0, 9), sale(0, 1, 2, 0, 9), sale(1, 2, 2, 3, 4)), []recall.Range{to(0, 9), to(0, 9), to(3, 4)}},
		{"both are needed", batch(3, 4, sale(0, 1, 2, 0, 9), sale(0, 1, 2, 0, 9), sale(1, 2, 3, 3, 4)), []recall.Range{to(0, 4), to(0, 4), to(3, 4)}},
		{"pieces that come back", batch(2, 3, sale(0, 1, 3, 2, 9), sale(0, 1, 3, 2, 9), sale(1, 0, 3, 5, 6)), []recall.Range{to(2, 9), to(2, 9), to(5, 6)}},
		{"pieces that came back", batch(2, 3, sale(0, 1, 3, 0, 9), sale(0, 1, 1, 7, 7), sale(1, 0, 2, 3, 9)), []recall.Range{to(0, 7), to(7, 7), to(3, 7)}},
		{"as great as all may be", greatest(), slices.Repeat([]recall.Range{to(0, 100)}, 8)},
	} {
		if got := mustWhen(t, c.b); !slices.Equal(got, c.want) {
			t.Errorf("%s: %v, not %v", c.name, got, c.want)
		}
	}
}

// P9.3: a range goes from the earliest to the latest day, also over days that the
// sale cannot have.
func TestWhenOverOtherDays(t *testing.T) {
	// The only piece is the owner 1's from day 3 to day 6.
	b := batch(3, 1, sale(0, 1, 1, 3, 3), sale(1, 0, 1, 6, 6), sale(0, 2, 1, 0, 9), sale(2, 0, 1, 0, 9))
	if got := mustWhen(t, b); !slices.Equal(got, []recall.Range{to(3, 3), to(6, 6), to(0, 9), to(0, 9)}) {
		t.Errorf("%v", got)
	}
	for day := range 10 {
		if can := !contradicts(narrowed(b, 2, day)); can != (day <= 3 || day >= 6) {
			t.Errorf("on day %d: %v", day, can)
		}
	}
}

// P9.4: the chapter's example, and edges.
func TestHolds(t *testing.T) {
	back := batch(2, 5, sale(0, 1, 5, 2, 4), sale(1, 0, 3, 6, 6))
	for _, c := range []struct {
		name       string
		b          recall.Batch
		owner, day int
		want       recall.Range
	}{
		{"the example", example(), 3, 4, to(0, 7)},
		{"the example", example(), 2, 4, to(1, 4)},
		{"the example", example(), 0, 2, to(0, 4)},
		{"the example, ahead of all", example(), 0, 0, to(10, 10)},
		{"the example, in the end", example(), 3, 100, to(7, 7)},
		{"no sales", batch(1, 1000), 0, 50, to(1000, 1000)},
		{"no pieces", batch(2, 0), 0, 0, to(0, 0)},
		{"not the house", batch(2, 7), 1, 100, to(0, 0)},
		{"the day before a sale", back, 1, 1, to(0, 0)},
		{"the first day of a sale", back, 1, 2, to(0, 5)},
		{"the last but one", back, 0, 3, to(0, 5)},
		{"the last day of a sale", back, 1, 4, to(5, 5)},
		{"the day behind it", back, 0, 5, to(0, 0)},
		{"on the day on which they come back", back, 0, 6, to(3, 3)},
		{"on the evening they are gone", batch(3, 4, sale(0, 1, 4, 3, 3), sale(1, 2, 4, 3, 3)), 1, 3, to(0, 0)},
		{"as great as all may be", greatest(), 5, 50, to(0, 1000)},
		{"as great as all may be", greatest(), 1, 0, to(0, 1000)},
		{"as great as all may be", greatest(), 2, 100, to(1000, 1000)},
		{"as great as all may be", greatest(), 3, 100, to(0, 0)},
	} {
		if got, e := recall.Holds(c.b, c.owner, c.day); got != c.want || e != api.OK {
			t.Errorf("%s: %d on day %d: %v, %v, not %v", c.name, c.owner, c.day, got, e, c.want)
		}
	}
}

// P9.4: the chapter's example, and edges.
func TestReach(t *testing.T) {
	for _, c := range []struct {
		name        string
		b           recall.Batch
		day         int
		can, surely []int
	}{
		{"the example", example(), 2, []int{0, 1, 2, 3}, []int{1, 2}},
		{"the example, ahead of all", example(), 0, []int{0}, []int{0}},
		{"the example, in the end", example(), 100, []int{1, 2, 3}, []int{1, 2, 3}},
		{"no pieces", batch(3, 0), 5, nil, nil},
		{"no sales", batch(6, 1), 100, []int{0}, []int{0}},
		{"somebody has it", batch(3, 1, sale(0, 1, 1, 0, 9), sale(1, 2, 1, 0, 9)), 4, []int{0, 1, 2}, nil},
		{"a single piece", batch(2, 2, sale(0, 1, 1, 0, 0)), 0, []int{0, 1}, []int{0, 1}},
		{"as great as all may be", greatest(), 100, []int{2}, []int{2}},
	} {
		can, surely := mustReach(t, c.b, c.day)
		if !slices.Equal(can, c.can) || !slices.Equal(surely, c.surely) {
			t.Errorf("%s: %v, %v, not %v, %v", c.name, can, surely, c.can, c.surely)
		}
	}
}

// P9.2: batches that contradict themselves, and others that hardly do not.
func TestOrder(t *testing.T) {
	for _, c := range []struct {
		name string
		b    recall.Batch
		want api.Errno
	}{
		{"the example", example(), api.OK},
		{"no sales", batch(1, 0), api.OK},
		{"as great as all may be", greatest(), api.OK},
		{"all of it", batch(2, 3, sale(0, 1, 3, 1, 1)), api.OK},
		{"more than all of it", batch(2, 3, sale(0, 1, 4, 1, 1)), api.ErrFail},
		{"some of nothing", batch(2, 0, sale(0, 1, 1, 1, 1)), api.ErrFail},
		{"of an owner who has none", batch(3, 9, sale(1, 2, 1, 1, 1)), api.ErrFail},
		{"sold ahead of the day on which they are bought", batch(3, 9, sale(0, 1, 1, 3, 4), sale(1, 2, 1, 1, 2)), api.ErrFail},
		{"sold on the day on which they are bought", batch(3, 9, sale(0, 1, 1, 3, 4), sale(1, 2, 1, 1, 3)), api.OK},
		{"each has to be first", batch(3, 9, sale(1, 2, 4, 0, 9), sale(2, 1, 4, 0, 9)), api.ErrFail},
		{"one piece goes round", batch(3, 9, sale(1, 2, 4, 0, 9), sale(2, 1, 4, 0, 9), sale(0, 1, 4, 0, 9)), api.OK},
		{"one piece less than has to go round", batch(3, 9, sale(1, 2, 4, 0, 9), sale(2, 1, 4, 0, 9), sale(0, 1, 3, 0, 9)), api.ErrFail},
		{"twice with one coming back", batch(2, 3, sale(0, 1, 3, 1, 9), sale(0, 1, 3, 1, 9), sale(1, 0, 3, 1, 9)), api.OK},
		{"twice with one coming back too late", batch(2, 3, sale(0, 1, 3, 1, 3), sale(0, 1, 3, 1, 3), sale(1, 0, 3, 4, 9)), api.ErrFail},
	} {
		order, days, e := recall.Order(c.b)
		if e != c.want || e == api.OK && !isTruth(c.b, order, days) {
			t.Errorf("%s: %v, %v, %v, not %v", c.name, order, days, e, c.want)
		}
	}
}

// P9.5: the chapter's example, and edges.
func TestBlame(t *testing.T) {
	with := func(b recall.Batch, more ...recall.Sale) recall.Batch {
		b.Sales = append(b.Sales, more...)
		return b
	}
	for _, c := range []struct {
		name string
		b    recall.Batch
		want []int
	}{
		{"the example", with(example(), sale(1, 0, 3, 1, 1)), []int{4}},
		{"without that", example(), nil},
		{"no sales", batch(1, 0), nil},
		{"as great as all may be", greatest(), nil},
		{"either of two", batch(2, 5, sale(0, 1, 3, 0, 9), sale(0, 1, 3, 0, 9)), []int{0}},
		{"only the second one", batch(2, 5, sale(0, 1, 3, 0, 9), sale(0, 1, 6, 0, 9)), []int{1}},
		{"any two of three", batch(2, 5, sale(0, 1, 3, 0, 9), sale(0, 1, 3, 0, 9), sale(0, 1, 3, 0, 9)), []int{0, 1}},
		{"one great one, not two small ones", batch(2, 4, sale(0, 1, 2, 0, 9), sale(0, 1, 2, 0, 9), sale(0, 1, 4, 0, 9)), []int{2}},
		{"the first and the last one, or others", batch(2, 4, sale(0, 1, 3, 0, 9), sale(0, 1, 1, 0, 9), sale(0, 1, 3, 0, 9), sale(0, 1, 3, 0, 9)), []int{0, 2}},
		{"all of them", batch(3, 0, sale(0, 1, 1, 0, 9), sale(1, 2, 1, 0, 9), sale(2, 0, 1, 0, 9)), []int{0, 1, 2}},
		{"as many as there may be", batch(2, 0, slices.Repeat([]recall.Sale{sale(1, 0, 1, 0, 100)}, 8)...), []int{0, 1, 2, 3, 4, 5, 6, 7}},
		// Without the sale 0 the sale 1 would have to go, too.
		{"what others hang on is kept", batch(3, 5, sale(0, 1, 3, 0, 9), sale(1, 2, 3, 0, 9), sale(0, 2, 3, 0, 9)), []int{2}},
	} {
		if got, e := recall.Blame(c.b); !slices.Equal(got, c.want) || e != api.OK {
			t.Errorf("%s: %v, %v, not %v", c.name, got, e, c.want)
		}
	}
}

// P9.1: truths, and what just is none.
func TestProveTruth(t *testing.T) {
	invalid := example()
	invalid.Owners = 7
	long := batch(2, 9, slices.Repeat([]recall.Sale{sale(0, 1, 1, 0, 9)}, 9)...)
	round := batch(2, 3, sale(0, 1, 3, 0, 9), sale(1, 0, 3, 0, 9), sale(0, 1, 2, 0, 9))
	for _, c := range []struct {
		name        string
		b           recall.Batch
		order, days []int
		want        bool
	}{
		{"a truth", example(), []int{0, 1, 2, 3}, []int{1, 2, 2, 4}, true},
		{"another one", example(), []int{2, 0, 1, 3}, []int{2, 2, 2, 6}, true},
		{"with days of its own", example(), []int{0, 1, 3, 2}, []int{1, 2, 5, 4}, true},
		{"a day before one ahead of it", example(), []int{0, 1, 3, 2}, []int{1, 2, 4, 5}, false},
		{"a sale before its pieces are bought", example(), []int{1, 0, 2, 3}, []int{2, 2, 2, 4}, false},
		{"a day too early", example(), []int{0, 1, 2, 3}, []int{0, 2, 2, 4}, false},
		{"a day too late", example(), []int{0, 1, 2, 3}, []int{1, 2, 2, 7}, false},
		{"a sale that is missing", example(), []int{0, 1, 2}, []int{1, 2, 2, 4}, false},
		{"a sale twice", example(), []int{0, 1, 2, 2}, []int{1, 2, 2, 4}, false},
		{"a sale more", example(), []int{0, 1, 2, 3, 3}, []int{1, 2, 2, 4}, false},
		{"a sale that there is not", example(), []int{0, 1, 2, 4}, []int{1, 2, 2, 4}, false},
		{"a sale below 0", example(), []int{0, 1, 2, -1}, []int{1, 2, 2, 4}, false},
		{"far from all sales", example(), []int{math.MinInt, math.MaxInt, 2, 3}, []int{1, 2, 2, 4}, false},
		{"a day that is missing", example(), []int{0, 1, 2, 3}, []int{1, 2, 2}, false},
		{"a day more", example(), []int{0, 1, 2, 3}, []int{1, 2, 2, 4, 4}, false},
		{"no days", example(), []int{0, 1, 2, 3}, nil, false},
		{"nothing", example(), nil, nil, false},
		{"far from all days", example(), []int{0, 1, 2, 3}, []int{math.MinInt, 2, 2, math.MaxInt}, false},
		{"of a batch that is none", invalid, []int{0, 1, 2, 3}, []int{1, 2, 2, 4}, false},
		{"of too many sales", long, []int{0, 1, 2, 3, 4, 5, 6, 7, 8}, make([]int, 9), false},
		{"of no owners", batch(0, 0), nil, nil, false},
		{"of no sales", batch(1, 0), nil, nil, true},
		{"an order of no sales", batch(1, 0), []int{0}, nil, false},
		{"days of no sales", batch(1, 0), nil, []int{0}, false},
		{"pieces come back", round, []int{0, 1, 2}, []int{0, 0, 0}, true},
		{"a loop of two", round, []int{2, 1, 0}, []int{0, 0, 0}, false},
		{"pieces do not come back in time", round, []int{0, 2, 1}, []int{0, 0, 0}, false},
		{"as great as all may be", greatest(), []int{0, 1, 2, 3, 4, 5, 6, 7}, []int{0, 0, 0, 0, 100, 100, 100, 100}, true},
		{"as great as all may be", greatest(), []int{0, 7, 2, 3, 4, 5, 6, 1}, make([]int, 8), true},
		{"as great as all may be", greatest(), []int{0, 1, 2, 3, 4, 5, 7, 6}, make([]int, 8), false},
	} {
		if is := recall.ProveTruth(c.b, c.order, c.days); is != c.want {
			t.Errorf("%s: %v, %v: %v", c.name, c.order, c.days, is)
		}
	}
}

// P9.1: each limit, and one beyond it.
func TestCheckBatch(t *testing.T) {
	for _, c := range []struct {
		name   string
		change func(b *recall.Batch)
		want   api.Errno
	}{
		{"the example", func(b *recall.Batch) {}, api.OK},
		{"no sales", func(b *recall.Batch) { b.Sales = nil }, api.OK},
		{"one owner", func(b *recall.Batch) { *b = batch(1, 10) }, api.OK},
		{"no owners", func(b *recall.Batch) { *b = batch(0, 10) }, api.ErrArg},
		{"six owners", func(b *recall.Batch) { b.Owners = 6 }, api.OK},
		{"seven owners", func(b *recall.Batch) { b.Owners = 7 }, api.ErrArg},
		{"owners below 0", func(b *recall.Batch) { *b = batch(math.MinInt, 10) }, api.ErrArg},
		{"no pieces", func(b *recall.Batch) { b.Total = 0 }, api.OK},
		{"pieces below 0", func(b *recall.Batch) { b.Total = -1 }, api.ErrArg},
		{"1000 pieces", func(b *recall.Batch) { b.Total = 1000 }, api.OK},
		{"1001 pieces", func(b *recall.Batch) { b.Total = 1001 }, api.ErrArg},
		{"eight sales", func(b *recall.Batch) { b.Sales = slices.Repeat(b.Sales, 2) }, api.OK},
		{"nine sales", func(b *recall.Batch) { b.Sales = append(slices.Repeat(b.Sales, 2), b.Sales[0]) }, api.ErrLimit},
		{"the last owner sells", func(b *recall.Batch) { b.Sales[3].From = 3; b.Sales[3].To = 0 }, api.OK},
		{"one behind the last sells", func(b *recall.Batch) { b.Sales[3].From = 4 }, api.ErrArg},
		{"one behind the last buys", func(b *recall.Batch) { b.Sales[3].To = 4 }, api.ErrArg},
		{"one below 0 sells", func(b *recall.Batch) { b.Sales[3].From = -1 }, api.ErrArg},
		{"one below 0 buys", func(b *recall.Batch) { b.Sales[3].To = -1 }, api.ErrArg},
		{"one buys of itself", func(b *recall.Batch) { b.Sales[3].From = 3 }, api.ErrArg},
		{"the house buys of itself", func(b *recall.Batch) { b.Sales[0].To = 0 }, api.ErrArg},
		{"one piece", func(b *recall.Batch) { b.Sales[0].Many = 1 }, api.OK},
		{"none", func(b *recall.Batch) { b.Sales[0].Many = 0 }, api.ErrArg},
		{"1000 of them", func(b *recall.Batch) { b.Sales[0].Many = 1000 }, api.OK},
		{"1001 of them", func(b *recall.Batch) { b.Sales[0].Many = 1001 }, api.ErrArg},
		{"all days", func(b *recall.Batch) { b.Sales[0].Days = to(0, 100) }, api.OK},
		{"the first day", func(b *recall.Batch) { b.Sales[0].Days = to(0, 0) }, api.OK},
		{"the last day", func(b *recall.Batch) { b.Sales[0].Days = to(100, 100) }, api.OK},
		{"a day before the first", func(b *recall.Batch) { b.Sales[0].Days = to(-1, 5) }, api.ErrArg},
		{"a day behind the last", func(b *recall.Batch) { b.Sales[0].Days = to(5, 101) }, api.ErrArg},
		{"only days before the first", func(b *recall.Batch) { b.Sales[0].Days = to(-2, -1) }, api.ErrArg},
		{"only days behind the last", func(b *recall.Batch) { b.Sales[0].Days = to(101, 101) }, api.ErrArg},
		{"no range", func(b *recall.Batch) { b.Sales[0].Days = to(5, 4) }, api.ErrArg},
		{"the last sale is none", func(b *recall.Batch) { b.Sales[3].Days = to(7, 6) }, api.ErrArg},
		{"it contradicts itself", func(b *recall.Batch) { b.Sales[0].Many = 11 }, api.OK},
	} {
		b := example()
		c.change(&b)
		if e := recall.CheckBatch(b); e != c.want {
			t.Errorf("%s: %v, not %v", c.name, e, c.want)
		}
	}
}
