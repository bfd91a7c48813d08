package recall_test

import (
	"math"
	"slices"
	"testing"

	"meniscus/api"
	"meniscus/recall"
)

// results are what each call that can have an error returns.
type results struct {
	order, days []int
	when, holds recall.Range
	can, surely []int
	blame       []int
	errors      [6]api.Errno
}

func callAll(b recall.Batch, sale, owner, day int) results {
	var r results
	r.errors[0] = recall.CheckBatch(b)
	r.order, r.days, r.errors[1] = recall.Order(b)
	r.when, r.errors[2] = recall.When(b, sale)
	r.holds, r.errors[3] = recall.Holds(b, owner, day)
	r.can, r.surely, r.errors[4] = recall.Reach(b, day)
	r.blame, r.errors[5] = recall.Blame(b)
	return r
}

// zeroWithErrors reports whether each result that comes with an error is zero.
func (r results) zeroWithErrors() bool {
	zero := [6]bool{
		true, len(r.order) == 0 && len(r.days) == 0, r.when == recall.Range{}, r.holds == recall.Range{},
		len(r.can) == 0 && len(r.surely) == 0, len(r.blame) == 0,
	}
	for call, e := range r.errors {
		if e != api.OK && !zero[call] {
			return false
		}
	}
	return true
}

func (r results) same(other results) bool {
	return slices.Equal(r.order, other.order) && slices.Equal(r.days, other.days) &&
		r.when == other.when && r.holds == other.holds &&
		slices.Equal(r.can, other.can) && slices.Equal(r.surely, other.surely) &&
		slices.Equal(r.blame, other.blame) && r.errors == other.errors
}

// R1 and R2, with the chapter's table of errors: each case has what its name
// says, and all that would come later.
func TestWhichErrorComesFirst(t *testing.T) {
	const ok, arg, rng, limit, fail = api.OK, api.ErrArg, api.ErrRange, api.ErrLimit, api.ErrFail
	all := func(e api.Errno) [6]api.Errno { return [6]api.Errno{e, e, e, e, e, e} }
	nowhere := recall.Sale{From: -1, To: -1}
	wrong := func(b *recall.Batch) { b.Sales[0].Many = 11 }
	for _, c := range []struct {
		name             string
		change           func(b *recall.Batch)
		sale, owner, day int
		want             [6]api.Errno
	}{
		{"nothing wrong", func(b *recall.Batch) {}, 3, 3, 100, all(ok)},
		{"too many sales, and nothing is right", func(b *recall.Batch) { *b = batch(0, -1, make([]recall.Sale, 9)...) }, 9, 9, 101, all(limit)},
		{"too many sales, and no owners", func(b *recall.Batch) { b.Owners = 0; b.Sales = make([]recall.Sale, 9) }, 9, 9, 101, all(limit)},
		{"no owners", func(b *recall.Batch) { b.Owners = 0 }, 9, 9, 101, all(arg)},
		{"too many pieces", func(b *recall.Batch) { wrong(b); b.Total = 1001 }, 9, 9, 101, all(arg)},
		{"a sale that is none", func(b *recall.Batch) { wrong(b); b.Sales[3] = nowhere }, 9, 9, 101, all(arg)},
		{"a sale that is none, and such a sale is asked for", func(b *recall.Batch) { b.Sales[0] = nowhere }, 0, 0, 0, all(arg)},
		{"no such sale, and it contradicts itself", wrong, 4, 0, 0, [6]api.Errno{ok, fail, rng, fail, fail, ok}},
		{"no such sale, below 0", func(b *recall.Batch) {}, -1, 0, 0, [6]api.Errno{ok, ok, rng, ok, ok, ok}},
		{"no such sale, as there are none", func(b *recall.Batch) { b.Sales = nil }, 0, 0, 0, [6]api.Errno{ok, ok, rng, ok, ok, ok}},
		{"no such sale, far away", func(b *recall.Batch) {}, math.MaxInt, 0, 0, [6]api.Errno{ok, ok, rng, ok, ok, ok}},
		{"no such owner, and it contradicts itself", wrong, 0, 4, 0, [6]api.Errno{ok, fail, fail, rng, fail, ok}},
		{"no such owner, below 0", func(b *recall.Batch) {}, 0, -1, 0, [6]api.Errno{ok, ok, ok, rng, ok, ok}},
		{"no such owner, though there may be", func(b *recall.Batch) {}, 0, 5, 0, [6]api.Errno{ok, ok, ok, rng, ok, ok}},
		{"a day behind the last, and it contradicts itself", wrong, 0, 0, 101, [6]api.Errno{ok, fail, fail, rng, rng, ok}},
		{"a day behind the last", func(b *recall.Batch) {}, 0, 0, 101, [6]api.Errno{ok, ok, ok, rng, rng, ok}},
		{"a day before the first", func(b *recall.Batch) {}, 0, 0, -1, [6]api.Errno{ok, ok, ok, rng, rng, ok}},
		{"days far away", func(b *recall.Batch) {}, 0, 0, math.MinInt, [6]api.Errno{ok, ok, ok, rng, rng, ok}},
		{"it contradicts itself", wrong, 0, 0, 0, [6]api.Errno{ok, fail, fail, fail, fail, ok}},
		{"some sales of it do", func(b *recall.Batch) { b.Sales[3].Days = to(0, 1) }, 0, 0, 0, [6]api.Errno{ok, fail, fail, fail, fail, ok}},
	} {
		b := example()
		c.change(&b)
		r := callAll(b, c.sale, c.owner, c.day)
		if r.errors != c.want {
			t.Errorf("%s: %v, not %v", c.name, r.errors, c.want)
		}
		if !r.zeroWithErrors() {
			t.Errorf("%s: results with errors: %v", c.name, r)
		}
	}
}

// P1: no argument makes a call panic.
func TestNoArgumentPanics(t *testing.T) {
	numbers := []int{math.MinInt, math.MinInt + 1, -1, 0, 0, 0, 1, 1, 2, 3, 3, 4, 5, 6, 7, 8, 9, 10, 99, 100, 101, 1000, 1001, math.MaxInt - 1, math.MaxInt}
	d := newDice(1)
	pick := func() int { return numbers[d.IntN(len(numbers))] }
	list := func() []int {
		var l []int
		for range d.IntN(10) {
			l = append(l, pick())
		}
		return l
	}
	change := func(b *recall.Batch) {
		s := &b.Sales[d.IntN(len(b.Sales))]
		switch d.IntN(7) {
		case 0:
			b.Owners = pick()
		case 1:
			b.Total = pick()
		case 2:
			s.From, s.To = pick(), pick()
		case 3:
			s.Many = pick()
		case 4:
			s.Days = to(pick(), pick())
		case 5:
			b.Sales = slices.Repeat(b.Sales, d.from(1, 3))
		}
	}
	for range 20000 {
		b := example()
		for range d.from(1, 3) {
			change(&b)
		}
		if r := callAll(b, pick(), pick(), pick()); !r.zeroWithErrors() {
			t.Fatalf("%v: %v", b, r)
		}
		if order, days := list(), list(); recall.ProveTruth(b, order, days) && recall.CheckBatch(b) != api.OK {
			t.Fatalf("%v: %v, %v are said to be a truth", b, order, days)
		}
	}
}

// R3: a list without elements is as nil.
func TestEmptyIsNil(t *testing.T) {
	for _, c := range [][2]recall.Batch{
		{batch(3, 5), {Owners: 3, Total: 5, Sales: []recall.Sale{}}},
		{batch(0, 5), {Total: 5, Sales: []recall.Sale{}}},
	} {
		if a, b := callAll(c[0], 0, 0, 0), callAll(c[1], 0, 0, 0); !a.same(b) {
			t.Errorf("%v: %v, %v", c[0], a, b)
		}
		want := recall.CheckBatch(c[0]) == api.OK
		for _, empty := range [][]int{nil, {}} {
			if recall.ProveTruth(c[0], empty, nil) != want || recall.ProveTruth(c[1], nil, empty) != want {
				t.Errorf("%v: no sales are no truth, or are one of a batch that is none", c[0])
			}
		}
	}
}

// R4, and that a call is again as it was: arguments stay as they are, and what is
// done with results changes nothing.
func TestMemory(t *testing.T) {
	contradicting := greatest()
	contradicting.Sales[7].Days = to(0, 0)
	contradicting.Sales[6].Days = to(1, 1)
	for _, b := range []recall.Batch{example(), greatest(), contradicting} {
		given := batch(b.Owners, b.Total, slices.Clone(b.Sales)...)
		for range 3 {
			first, again := callAll(b, 0, 0, 50), callAll(given, 0, 0, 50)
			if !first.same(again) {
				t.Errorf("twice the same: %v, %v", first, again)
			}
			for _, numbers := range [][]int{first.order, first.days, first.can, first.surely, first.blame} {
				overwrite(numbers, 7)
			}
			if !slices.Equal(b.Sales, given.Sales) {
				t.Fatalf("arguments were written to: %v", b)
			}
		}
	}
	order, days := []int{0, 1, 2, 3}, []int{1, 2, 2, 4}
	if !recall.ProveTruth(example(), order, days) || !slices.Equal(order, []int{0, 1, 2, 3}) || !slices.Equal(days, []int{1, 2, 2, 4}) {
		t.Errorf("arguments were written to: %v, %v", order, days)
	}
}

// overwrite has the number in all of the list's memory.
func overwrite(list []int, number int) {
	full := list[:cap(list)]
	for n := range full {
		full[n] = number
	}
}

// R4: the lists of one result share no memory with each other.
func TestListsAreApart(t *testing.T) {
	order, days, _ := recall.Order(example())
	overwrite(days, -1)
	if !slices.Equal(slices.Sorted(slices.Values(order)), []int{0, 1, 2, 3}) {
		t.Errorf("the order shares memory with its days: %v", order)
	}
	can, surely, _ := recall.Reach(example(), 0)
	overwrite(surely, -1)
	if !slices.Equal(can, []int{0}) {
		t.Errorf("those who can have some share memory with those who surely have: %v", can)
	}
}
