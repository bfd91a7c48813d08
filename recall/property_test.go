package recall_test

import (
	"slices"
	"testing"

	"meniscus/api"
	"meniscus/recall"
)

// batches hands some batches to a test.
func batches(t *testing.T, many int, l limits, try func(d dice, b recall.Batch)) {
	t.Helper()
	d := newDice(2)
	for range many {
		b := d.batch(l)
		if e := recall.CheckBatch(b); e != api.OK {
			t.Fatalf("%v: %v", b, e)
		}
		try(d, b)
		if t.Failed() {
			return
		}
	}
}

// soldBatches hands some batches to a test that have a truth, and one of theirs.
func soldBatches(t *testing.T, many int, l limits, try func(d dice, b recall.Batch, x truth)) {
	t.Helper()
	d := newDice(3)
	for range many {
		b, x := d.sold(l)
		if !isTruth(b, x.order, x.days) {
			t.Fatalf("%v: %v", b, x)
		}
		try(d, b, x)
		if t.Failed() {
			return
		}
	}
}

func mustWhen(t *testing.T, b recall.Batch) []recall.Range {
	t.Helper()
	var list []recall.Range
	for number := range b.Sales {
		r, e := recall.When(b, number)
		if e != api.OK {
			t.Fatalf("When of %v, %d: %v", b, number, e)
		}
		list = append(list, r)
	}
	return list
}

// mustHold has what each owner has on the evening of the day.
func mustHold(t *testing.T, b recall.Batch, day int) []recall.Range {
	t.Helper()
	var list []recall.Range
	for owner := range b.Owners {
		r, e := recall.Holds(b, owner, day)
		if e != api.OK {
			t.Fatalf("Holds of %v, %d, %d: %v", b, owner, day, e)
		}
		list = append(list, r)
	}
	return list
}

func mustReach(t *testing.T, b recall.Batch, day int) (can, surely []int) {
	t.Helper()
	can, surely, e := recall.Reach(b, day)
	if e != api.OK {
		t.Fatalf("Reach of %v, %d: %v", b, day, e)
	}
	return can, surely
}

// contradicts reports whether the batch contradicts itself, as Order has it.
func contradicts(b recall.Batch) bool {
	_, _, e := recall.Order(b)
	return e == api.ErrFail
}

func within(number int, r recall.Range) bool { return r.Lo <= number && number <= r.Hi }

func narrowed(b recall.Batch, sale, day int) recall.Batch {
	b.Sales = slices.Clone(b.Sales)
	b.Sales[sale].Days = recall.Range{Lo: day, Hi: day}
	return b
}

// enough reports a kind of case that was hardly tried.
func enough(t *testing.T, counts map[string]int, kinds ...string) {
	t.Helper()
	for _, kind := range kinds {
		if counts[kind] < 50 {
			t.Errorf("too few of a kind were tried: %s, of %v", kind, counts)
		}
	}
}

// checkTold holds all ranges of a batch against those that are right, on each of
// the days.
func checkTold(t *testing.T, b recall.Batch, want told, days []int) {
	t.Helper()
	if contradicts(b) == want.truths {
		t.Fatalf("%v has a truth: %v", b, want.truths)
	}
	if !want.truths {
		return
	}
	if when := mustWhen(t, b); !slices.Equal(when, want.when) {
		t.Errorf("When of %v: %v, not %v", b, when, want.when)
	}
	for _, day := range days {
		for owner, r := range mustHold(t, b, day) {
			if r != want.holds[owner][day] {
				t.Errorf("Holds of %v, %d, %d: %v, not %v", b, owner, day, r, want.holds[owner][day])
			}
		}
		can, surely := mustReach(t, b, day)
		wantCan, wantSurely := want.reached(day)
		if !slices.Equal(can, wantCan) || !slices.Equal(surely, wantSurely) {
			t.Errorf("Reach of %v, %d: %v, %v, not %v, %v", b, day, can, surely, wantCan, wantSurely)
		}
	}
}

func count(counts map[string]int, b recall.Batch, want told) {
	if !want.truths {
		counts["contradicts itself"]++
		return
	}
	counts["has a truth"]++
	for number, r := range want.when {
		if r != b.Sales[number].Days {
			counts["a sale that cannot be on each of its days"]++
		}
		if r.Lo < r.Hi {
			counts["a sale on several days"]++
		}
	}
	for _, days := range want.holds {
		for _, r := range days {
			if r.Lo == 0 && r.Hi > 0 {
				counts["can have some, but need not"]++
			}
			if 0 < r.Lo && r.Lo < r.Hi {
				counts["surely has some"]++
			}
		}
	}
}

func countAll(t *testing.T, counts map[string]int) {
	t.Helper()
	enough(t, counts, "contradicts itself", "has a truth", "a sale that cannot be on each of its days",
		"a sale on several days", "can have some, but need not", "surely has some")
}

// P9.2, P9.3 and P9.4, and the document's P2 and P3: all orders are tried, with
// all days.
func TestTold(t *testing.T) {
	counts := map[string]int{}
	batches(t, 3000, smallLimits(), func(_ dice, b recall.Batch) {
		want := toldBy(b, truthsOf(b), smallLimits().day+1)
		count(counts, b, want)
		checkTold(t, b, want, []int{0, 1, 2, 3, 4, 5})
	})
	countAll(t, counts)
}

// P9.2, P9.3 and P9.4, of batches of any size.
func TestToldOfMore(t *testing.T) {
	counts := map[string]int{}
	days := []int{0, 1, 50, 99, 100}
	batches(t, 600, anyLimits(), func(d dice, b recall.Batch) {
		want := toldByDays(b, api.MaxRecallDay)
		count(counts, b, want)
		checkTold(t, b, want, append(days, d.Perm(101)[:10]...))
	})
	countAll(t, counts)
	counts = map[string]int{}
	batches(t, 1000, fewDays(), func(_ dice, b recall.Batch) {
		want := toldByDays(b, fewDays().day)
		count(counts, b, want)
		checkTold(t, b, want, []int{0, 1, 2, 3, 4, 5, 6})
	})
	countAll(t, counts)
}

// P9.1 and P9.2: what Order returns is a truth, also by ProveTruth.
func TestOrderIsATruth(t *testing.T) {
	for _, l := range []limits{smallLimits(), fewDays(), anyLimits()} {
		soldBatches(t, 1500, l, func(_ dice, b recall.Batch, _ truth) {
			order, days, e := recall.Order(b)
			if e != api.OK || !isTruth(b, order, days) || !recall.ProveTruth(b, order, days) {
				t.Errorf("Order of %v: %v, %v, %v", b, order, days, e)
			}
		})
	}
}

// P9.1: a truth stays one, or not, whatever is changed in it.
func TestProveTruthAsDefined(t *testing.T) {
	counts := map[string]int{}
	soldBatches(t, 4000, fewDays(), func(d dice, b recall.Batch, x truth) {
		for range d.IntN(4) {
			x = d.changed(x)
		}
		want := isTruth(b, x.order, x.days)
		if is := recall.ProveTruth(b, x.order, x.days); is != want {
			t.Errorf("ProveTruth of %v, %v: %v", b, x, is)
		}
		if want {
			counts["truths"] += min(1, len(b.Sales))
		} else {
			counts["none"]++
		}
	})
	enough(t, counts, "truths", "none")
}

func (d dice) changed(x truth) truth {
	if len(x.order) == 0 || len(x.days) == 0 {
		return truth{order: append(x.order, 0), days: append(x.days, 0)}
	}
	at, day := &x.order[d.IntN(len(x.order))], &x.days[d.IntN(len(x.days))]
	switch d.IntN(7) {
	case 0, 1:
		*day += d.from(-1, 1)
	case 2, 3:
		other := &x.order[d.IntN(len(x.order))]
		*at, *other = *other, *at
	case 4:
		*at = d.from(-1, len(x.order))
	case 5:
		x.order = x.order[1:]
	case 6:
		x.days = x.days[:len(x.days)-1]
	}
	return x
}

// P9.5, P9.11 and the document's P6: all lists of sales are tried.
func TestBlameAsDefined(t *testing.T) {
	counts := map[string]int{}
	check := func(b recall.Batch, want []int) {
		counts[[]string{"none", "one", "two", "three", "four"}[min(4, len(want))]]++
		if got, e := recall.Blame(b); !slices.Equal(got, want) || e != api.OK {
			t.Errorf("Blame of %v: %v, %v, not %v", b, got, e, want)
		}
		if contradicts(b) != (len(want) > 0) || contradicts(without(b, want)) {
			t.Errorf("%v contradicts itself: %v, without %v: %v", b, contradicts(b), want, contradicts(without(b, want)))
		}
	}
	batches(t, 1500, smallLimits(), func(_ dice, b recall.Batch) {
		check(b, fewestOf(b, func(b recall.Batch) bool { return len(truthsOf(b)) > 0 }))
	})
	batches(t, 600, fewDays(), func(_ dice, b recall.Batch) {
		check(b, fewestOf(b, func(b recall.Batch) bool { return toldByDays(b, fewDays().day).truths }))
	})
	enough(t, counts, "none", "one", "two")
}

// P9.5: of batches that hardly any list of sales leaves without contradiction,
// and of several fewest lists the least one.
func TestBlameOfWild(t *testing.T) {
	d, long, choices := newDice(5), 0, 0
	for range 500 {
		b := recall.Batch{Owners: d.from(2, 5), Total: d.from(0, 6)}
		for range d.from(3, 8) {
			s := recall.Sale{From: d.IntN(b.Owners), Many: d.from(1, 5)}
			s.To = (s.From + d.from(1, b.Owners-1)) % b.Owners
			s.Days.Lo = d.from(0, 6)
			s.Days.Hi = d.from(s.Days.Lo, 6)
			b.Sales = append(b.Sales, s)
		}
		hasTruth := func(b recall.Batch) bool { return toldByDays(b, 6).truths }
		want := fewestOf(b, hasTruth)
		if got, e := recall.Blame(b); !slices.Equal(got, want) || e != api.OK {
			t.Fatalf("Blame of %v: %v, %v, not %v", b, got, e, want)
		}
		long += len(want) / 3
		for _, list := range listsOf(b) {
			if len(list) == len(want) && !slices.Equal(list, want) && hasTruth(without(b, list)) {
				choices++
				break
			}
		}
	}
	if long < 50 || choices < 50 {
		t.Errorf("too few of a kind were tried: %d, %d", long, choices)
	}
}

// walked is a truth, if there is one this way: some sale that can be next, on
// some day, and so on.
func (d dice) walked(b recall.Batch) (truth, bool) {
	x := truth{days: make([]int, len(b.Sales))}
	set, day := 0, 0
	for len(x.order) < len(b.Sales) {
		var next []int
		for number, s := range b.Sales {
			if canBeNext(b, set, number, max(day, s.Days.Lo)) {
				next = append(next, number)
			}
		}
		if len(next) == 0 {
			return truth{}, false
		}
		number := next[d.IntN(len(next))]
		s := b.Sales[number]
		first := max(day, s.Days.Lo)
		day = first + d.IntN(1+d.IntN(1+s.Days.Hi-first))
		x.order, x.days[number], set = append(x.order, number), day, set|1<<number
	}
	return x, isTruth(b, x.order, x.days)
}

// P9.6, and the document's P2: each truth is in all ranges.
func TestWhateverWasSoldWhen(t *testing.T) {
	walks := 0
	for _, l := range []limits{fewDays(), anyLimits()} {
		soldBatches(t, 250, l, func(d dice, b recall.Batch, x truth) {
			truths := []truth{x}
			for range 20 {
				if walked, ok := d.walked(b); ok {
					truths = append(truths, walked)
					walks++
				}
			}
			days := d.Perm(l.day + 1)[:min(5, l.day+1)]
			for _, x := range truths {
				checkTruth(t, b, x, days)
			}
		})
	}
	if walks < 1000 {
		t.Errorf("too few of a kind were tried: %d", walks)
	}
}

func checkTruth(t *testing.T, b recall.Batch, x truth, days []int) {
	t.Helper()
	if !recall.ProveTruth(b, x.order, x.days) {
		t.Errorf("%v: %v is not proved", b, x)
	}
	for number, r := range mustWhen(t, b) {
		if !within(x.days[number], r) {
			t.Errorf("%v: %v, but When of %d is %v", b, x, number, r)
		}
	}
	for _, day := range days {
		has := evening(b, x.days, day)
		can, surely := mustReach(t, b, day)
		for owner, r := range mustHold(t, b, day) {
			if !within(has[owner], r) {
				t.Errorf("%v: %v, but Holds of %d, %d is %v", b, x, owner, day, r)
			}
			if has[owner] > 0 && !slices.Contains(can, owner) || has[owner] == 0 && slices.Contains(surely, owner) {
				t.Errorf("%v: %v, but Reach of %d is %v, %v", b, x, day, can, surely)
			}
		}
	}
}

// P9.7: the ends, and the days beyond.
func TestEnds(t *testing.T) {
	counts := map[string]int{}
	for _, l := range []limits{fewDays(), anyLimits()} {
		soldBatches(t, 500, l, func(_ dice, b recall.Batch, _ truth) {
			for number, r := range mustWhen(t, b) {
				given := b.Sales[number].Days
				if !within(r.Lo, given) || !within(r.Hi, given) {
					t.Errorf("%v: When of %d is %v", b, number, r)
				}
				for _, day := range []int{r.Lo, r.Hi} {
					if contradicts(narrowed(b, number, day)) {
						t.Errorf("%v: When of %d is %v, but cannot be %d", b, number, r, day)
					}
				}
				for _, day := range []int{r.Lo - 1, r.Hi + 1} {
					if !within(day, given) {
						continue
					}
					counts["beyond"]++
					if !contradicts(narrowed(b, number, day)) {
						t.Errorf("%v: When of %d is %v, but can be %d", b, number, r, day)
					}
				}
			}
		})
	}
	enough(t, counts, "beyond")
}

// P9.8, and the document's P4: no piece is lost.
func TestNothingLost(t *testing.T) {
	for _, l := range []limits{fewDays(), anyLimits()} {
		soldBatches(t, 500, l, func(d dice, b recall.Batch, x truth) {
			for range 5 {
				least, most := 0, 0
				for _, r := range mustHold(t, b, d.from(0, api.MaxRecallDay)) {
					least, most = least+r.Lo, most+r.Hi
				}
				if least > b.Total || most < b.Total {
					t.Errorf("%v: from %d to %d pieces", b, least, most)
				}
			}
			has := evening(b, x.days, api.MaxRecallDay)
			for owner, r := range mustHold(t, b, api.MaxRecallDay) {
				if r != (recall.Range{Lo: has[owner], Hi: has[owner]}) {
					t.Errorf("%v: at last %d has %v, not %d", b, owner, r, has[owner])
				}
			}
		})
	}
}

// P9.9: before all sales, and owners to whom no sale goes.
func TestNoSooner(t *testing.T) {
	counts := map[string]int{}
	soldBatches(t, 2000, anyLimits(), func(d dice, b recall.Batch, _ truth) {
		first := api.MaxRecallDay
		for _, s := range b.Sales {
			first = min(first, s.Days.Lo)
		}
		if first > 0 {
			counts["before all sales"]++
			for owner, r := range mustHold(t, b, d.from(0, first-1)) {
				if want := b.Total * (1 - min(1, owner)); r != (recall.Range{Lo: want, Hi: want}) {
					t.Errorf("%v: ahead of all sales %d has %v", b, owner, r)
				}
			}
		}
		day := d.from(0, api.MaxRecallDay)
		can, _ := mustReach(t, b, day)
		for owner, r := range mustHold(t, b, day) {
			isTo := func(s recall.Sale) bool { return s.To == owner }
			if owner > 0 && !slices.ContainsFunc(b.Sales, isTo) {
				counts["to whom no sale goes"]++
				if r != (recall.Range{}) || slices.Contains(can, owner) {
					t.Errorf("%v: no sale goes to %d, but it has %v on day %d", b, owner, r, day)
				}
			}
		}
	})
	enough(t, counts, "before all sales", "to whom no sale goes")
}

// P9.10: wider Days, and more pieces.
func TestWider(t *testing.T) {
	counts := map[string]int{}
	soldBatches(t, 1500, fewDays(), func(d dice, b recall.Batch, _ truth) {
		wider := b
		wider.Sales = slices.Clone(b.Sales)
		if len(b.Sales) > 0 && d.IntN(2) == 0 {
			days := &wider.Sales[d.IntN(len(b.Sales))].Days
			days.Lo, days.Hi = d.from(0, days.Lo), d.from(days.Hi, 8)
		} else {
			wider.Total += d.from(1, 5)
		}
		before := mustWhen(t, b)
		for number, r := range mustWhen(t, wider) {
			if r.Lo > before[number].Lo || r.Hi < before[number].Hi {
				t.Errorf("%v: When of %d is %v, but of %v it is %v", wider, number, r, b, before[number])
			}
			if r != before[number] && wider.Total > b.Total {
				counts["wider with more pieces"]++
			}
			if r != before[number] && wider.Total == b.Total {
				counts["wider with wider Days"]++
			}
		}
	})
	enough(t, counts, "wider with more pieces", "wider with wider Days")
}

// P9.11: without the last sale of a truth.
func TestWithoutTheLast(t *testing.T) {
	soldBatches(t, 1500, anyLimits(), func(_ dice, b recall.Batch, x truth) {
		order, _, e := recall.Order(b)
		if e != api.OK {
			t.Fatalf("Order of %v: %v", b, e)
		}
		for _, list := range [][]int{order, x.order} {
			if n := len(list); n > 0 && contradicts(without(b, list[n-1:])) {
				t.Errorf("%v contradicts itself without %d, though %v", b, list[n-1], list)
			}
		}
	})
}

// P9.12, and the document's P7: sales that are listed in another order.
func TestAnyOrder(t *testing.T) {
	counts := map[string]int{}
	batches(t, 1500, fewDays(), func(d dice, b recall.Batch) {
		places := d.Perm(len(b.Sales))
		other, _ := shuffled(b, truth{days: make([]int, len(b.Sales))}, places)
		blamed, _ := recall.Blame(b)
		otherBlamed, _ := recall.Blame(other)
		if contradicts(b) != contradicts(other) || len(blamed) != len(otherBlamed) {
			t.Errorf("%v contradicts itself without %v, %v without %v", b, blamed, other, otherBlamed)
		}
		if contradicts(b) {
			counts["contradicts itself"]++
			return
		}
		counts["has a truth"]++
		when := mustWhen(t, other)
		for number, r := range mustWhen(t, b) {
			if r != when[places[number]] {
				t.Errorf("When of %v, %d: %v, of %v, %d: %v", b, number, r, other, places[number], when[places[number]])
			}
		}
		day := d.from(0, 7)
		if was, is := mustHold(t, b, day), mustHold(t, other, day); !slices.Equal(was, is) {
			t.Errorf("Holds of %v on day %d: %v, of %v: %v", b, day, was, other, is)
		}
	})
	enough(t, counts, "contradicts itself", "has a truth")
}

// P9.13: all days are later.
func TestLater(t *testing.T) {
	counts := map[string]int{}
	batches(t, 1500, fewDays(), func(d dice, b recall.Batch) {
		later := d.from(1, api.MaxRecallDay-fewDays().day)
		other := b
		other.Sales = slices.Clone(b.Sales)
		for number := range other.Sales {
			days := &other.Sales[number].Days
			days.Lo, days.Hi = days.Lo+later, days.Hi+later
		}
		if contradicts(b) != contradicts(other) {
			t.Errorf("%v contradicts itself: %v, %v: %v", b, contradicts(b), other, contradicts(other))
		}
		if contradicts(b) {
			return
		}
		counts["has a truth"]++
		when := mustWhen(t, other)
		for number, r := range mustWhen(t, b) {
			if when[number] != (recall.Range{Lo: r.Lo + later, Hi: r.Hi + later}) {
				t.Errorf("%v, later by %d: When of %d is %v, not %v", b, later, number, when[number], r)
			}
		}
		for day := range fewDays().day + 1 {
			if was, is := mustHold(t, b, day), mustHold(t, other, day+later); !slices.Equal(was, is) {
				t.Errorf("%v: on day %d all have %v, later by %d: %v", b, day, was, later, is)
			}
		}
	})
	enough(t, counts, "has a truth")
}
