package order_test

import (
	"slices"
	"testing"

	"meniscus/api"
	"meniscus/order"
	"meniscus/screw"
)

// houses hands some houses, with what all their plans come to, to a test.
func houses(t *testing.T, many int, l limits, try func(d dice, h order.House, all map[served]bool)) {
	t.Helper()
	d := newDice(2)
	for range many {
		h := d.house(l)
		if e := order.CheckHouse(h); e != api.OK {
			t.Fatalf("%v: %v", h, e)
		}
		try(d, h, allServed(h))
		if t.Failed() {
			return
		}
	}
}

func mustMost(t *testing.T, h order.House) int {
	t.Helper()
	most, e := order.Most(h)
	if e != api.OK {
		t.Fatalf("Most of %v: %v", h, e)
	}
	return most
}

func mustBest(t *testing.T, h order.House) ([]int, int) {
	t.Helper()
	best, worth, e := order.Best(h)
	if e != api.OK {
		t.Fatalf("Best of %v: %v", h, e)
	}
	return best, worth
}

func mustServe(t *testing.T, h order.House) [][]int {
	t.Helper()
	plan, e := order.Serve(h)
	if e != api.OK {
		t.Fatalf("Serve of %v: %v", h, e)
	}
	return plan
}

// enough reports a kind of case that was hardly tried.
func enough(t *testing.T, counts map[string]int, kinds ...string) {
	t.Helper()
	for _, kind := range kinds {
		if counts[kind] < 50 {
			t.Errorf("too few of a kind were tried: %s, of %v", kind, counts)
		}
	}
}

// P8.1 and P8.2: the bounds, and what fits, word by word.
func TestFitAsDefined(t *testing.T) {
	counts := map[string]int{}
	houses(t, 1500, limits{instruments: 6, orders: 3, kinds: 2}, func(d dice, h order.House, _ map[served]bool) {
		bounds, e := order.Bounds(h)
		if e != api.OK || len(bounds) != len(h.Instruments) {
			t.Fatalf("Bounds of %v: %v, %v", h, bounds, e)
		}
		for number, x := range h.Instruments {
			if want := boundOf(h, x); bounds[number] != want {
				t.Errorf("%v: the bound of %d is %d, not %d", h, number, bounds[number], want)
			}
		}
		for number, o := range h.Orders {
			want := fitting(h, o)
			counts["fit"] += min(1, len(want))
			counts["do not"] += min(1, len(h.Instruments)-len(want))
			if got, e := order.Fit(h, number); e != api.OK || !slices.Equal(got, want) {
				t.Errorf("%v: %v fit the order %d, %v, not %v", h, got, number, e, want)
			}
		}
	})
	enough(t, counts, "fit", "do not")
}

// P8.3, P8.6, P8.7, and the document's P5: all plans are tried.
func TestMostAsDefined(t *testing.T) {
	counts := map[string]int{}
	houses(t, 1500, anyLimits(), func(d dice, h order.House, all map[served]bool) {
		want, wanted := mostOf(all), wantedByAll(h)
		if most := mustMost(t, h); most != want {
			t.Errorf("%v: %d, not %d", h, most, want)
		}
		plan := mustServe(t, h)
		if !isPlan(h, plan) || sentBy(plan) != want {
			t.Errorf("%v: %v sends %d, not %d", h, plan, sentBy(plan), want)
		}
		if !order.ProvePlan(h, plan, want) || order.ProvePlan(h, plan, want+1) {
			t.Errorf("%v: %v does not prove just %d", h, plan, want)
		}
		lack, e := order.Lack(h)
		if want == wanted {
			counts["all"] += min(1, len(h.Orders))
			if len(lack) != 0 || e != api.ErrNone {
				t.Errorf("%v: all can be sent, but %v, %v", h, lack, e)
			}
			return
		}
		counts["not all"]++
		if lackOf(h, lack) > 1 && len(lack) > 1 {
			counts["several lack"]++
		}
		if e != api.OK || wanted-lackOf(h, lack) != want {
			t.Errorf("%v: %v, %v show %d, not %d", h, lack, e, wanted-lackOf(h, lack), want)
		}
		if !order.ProveLack(h, lack, want) || order.ProveLack(h, lack, want-1) {
			t.Errorf("%v: %v does not prove just %d", h, lack, want)
		}
	})
	enough(t, counts, "all", "not all", "several lack")
}

// P8.4, P8.6 and P8.7: all lists of orders are tried.
func TestProofsAsDefined(t *testing.T) {
	houses(t, 600, anyLimits(), func(d dice, h order.House, all map[served]bool) {
		most, wanted := mostOf(all), wantedByAll(h)
		for _, orders := range lists(h) {
			shown := wanted - lackOf(h, orders)
			if shown < most {
				t.Errorf("%v: %v shows %d, but %d can be sent", h, orders, shown, most)
			}
			for _, many := range []int{shown - 1, shown, shown + 1, most, d.from(-5, 40)} {
				if is := order.ProveLack(h, orders, many); is != (shown <= many) {
					t.Errorf("%v: %v shows %d, is a proof of %d: %v", h, orders, shown, many, is)
				}
			}
		}
	})
}

// P8.3: a plan stays one, or not, whatever is changed in it.
func TestPlansAsDefined(t *testing.T) {
	counts := map[string]int{}
	houses(t, 1500, anyLimits(), func(d dice, h order.House, _ map[served]bool) {
		for range 10 {
			plan := mustServe(t, h)
			for range d.IntN(3) {
				plan = d.changed(h, plan)
			}
			want, sent := isPlan(h, plan), sentBy(plan)
			if want {
				counts["plans"] += min(1, len(plan))
			} else {
				counts["none"]++
			}
			for _, many := range []int{sent - 1, sent, sent + 1} {
				if is := order.ProvePlan(h, plan, many); is != (want && many <= sent) {
					t.Errorf("%v: %v is a plan: %v, sends at least %d: %v", h, plan, want, many, is)
				}
			}
		}
	})
	enough(t, counts, "plans", "none")
}

func (d dice) changed(h order.House, plan [][]int) [][]int {
	if len(plan) == 0 {
		return append(plan, nil)
	}
	n := d.IntN(len(plan))
	switch d.IntN(6) {
	case 0:
		if len(plan[n]) > 0 {
			plan[n] = slices.Delete(plan[n], 0, 1)
		}
	case 1:
		plan[n] = append(plan[n], d.from(-1, len(h.Instruments)))
	case 2:
		plan[n] = append(plan[n], d.from(0, max(0, len(h.Instruments)-1)))
		slices.Sort(plan[n])
	case 3:
		slices.Reverse(plan[n])
	case 4:
		other := d.IntN(len(plan))
		plan[n], plan[other] = plan[other], plan[n]
	case 5:
		plan = plan[:n]
	}
	return plan
}

// P8.5 and P8.10: all lists of orders are tried, with all plans.
func TestBestAsDefined(t *testing.T) {
	counts := map[string]int{}
	houses(t, 1500, anyLimits(), func(d dice, h order.House, all map[served]bool) {
		want := bestOf(h, all)
		best, worth := mustBest(t, h)
		if !slices.Equal(best, want) || worth != worthOf(h, want) {
			t.Errorf("%v: %v, worth %d, not %v, worth %d", h, best, worth, want, worthOf(h, want))
		}
		if len(want) > 1 {
			counts["several"]++
		}
		if len(want) > 0 && len(want) < len(h.Orders) {
			counts["some"]++
		}
		more := slices.ContainsFunc(lists(h), func(orders []int) bool {
			return slices.Compare(orders, want) != 0 && worthOf(h, orders) == worth && together(h, all, orders)
		})
		if more {
			counts["a choice"]++
		}
		allOfThem := lists(h)[1<<len(h.Orders)-1]
		if together(h, all, allOfThem) != (mustMost(t, h) == wantedByAll(h)) {
			t.Errorf("%v: all go together, or all can be sent, but not both", h)
		}
	})
	enough(t, counts, "several", "some", "a choice")
}

// P8.5: of many that are worth as much, the fewest, and of these the least.
func TestBestOfEqual(t *testing.T) {
	d := newDice(85)
	for range 1500 {
		var list []int
		for range d.from(0, 6) {
			list = append(list, d.IntN(2))
		}
		h := kinds(list...)
		for range d.from(1, 6) {
			h.Orders = append(h.Orders, wants(d.IntN(2), d.from(1, 3), d.IntN(3)))
		}
		want := bestOf(h, allServed(h))
		if best, worth := mustBest(t, h); !slices.Equal(best, want) || worth != worthOf(h, want) {
			t.Fatalf("%v: %v, worth %d, not %v, worth %d", h, best, worth, want, worthOf(h, want))
		}
	}
}

// P8.8, and the document's P3: an instrument that fits is right in each truth.
func TestFitsInEachTruth(t *testing.T) {
	tight := 0
	houses(t, 500, limits{instruments: 4, orders: 4, kinds: 1}, func(d dice, h order.House, _ map[served]bool) {
		for number, o := range h.Orders {
			fit, _ := order.Fit(h, number)
			for _, n := range fit {
				x := h.Instruments[n]
				s := h.Engines[x.Engine]
				cutting, _, e := screw.Cut(s, x.Scale, o.Bound)
				if e != api.OK {
					t.Fatalf("%v: %d fits %d, but %v", h, n, number, e)
				}
				for range 10 {
					truth := d.truth(s)
					for line, tick := range cutting {
						place, _ := screw.Place(s, tick, truth)
						if out := place - x.Scale[line]; out < -o.Bound || out > o.Bound {
							t.Errorf("%v: %d fits %d, but its line %d is out by %d", h, n, number, line, out)
						}
					}
				}
				if boundOf(h, x) == o.Bound {
					tight++
				}
			}
		}
	})
	if tight < 50 {
		t.Errorf("too few of a kind were tried: %d", tight)
	}
}

// truth is one of the screw, as often as not with all at their ends.
func (d dice) truth(s screw.Screw) screw.Truth {
	ends := d.IntN(2) == 0
	of := func(r screw.Range) int {
		if ends {
			return r.Lo + (r.Hi-r.Lo)*d.IntN(2)
		}
		return d.from(r.Lo, r.Hi)
	}
	var truth screw.Truth
	for _, r := range s.Phases {
		truth.Phases = append(truth.Phases, of(r))
	}
	for _, z := range s.Zones {
		truth.Wears = append(truth.Wears, of(z.Wear))
	}
	return truth
}

// P8.9: with one instrument more, or one more wanted, and with what makes an
// order easier.
func TestMore(t *testing.T) {
	counts := map[string]int{}
	houses(t, 3000, limits{instruments: 9, orders: 6, kinds: 2}, func(d dice, h order.House, _ map[served]bool) {
		most := mustMost(t, h)
		changed := func(name string, byAtMost int, change func(h *order.House)) {
			other := cloneHouse(h)
			change(&other)
			more := mustMost(t, other)
			if more < most || more > most+byAtMost {
				t.Errorf("%v, %s: from %d to %d", h, name, most, more)
			}
			if more > most {
				counts[name]++
			}
		}
		changed("an instrument", 1, func(h *order.House) {
			h.Instruments = append(h.Instruments, d.instrument(*h, limits{kinds: 2}))
		})
		if len(h.Orders) == 0 {
			return
		}
		number := d.IntN(len(h.Orders))
		far := api.MaxOrderInstruments
		changed("one more wanted", 1, func(h *order.House) {
			o := &h.Orders[number]
			o.Wants = min(o.Wants+1, api.MaxOrderWants)
		})
		changed("a greater bound", far, func(h *order.House) {
			o := &h.Orders[number]
			o.Bound = d.from(o.Bound, o.Bound+10)
		})
		changed("due later", far, func(h *order.House) {
			o := &h.Orders[number]
			o.Due = d.from(o.Due, o.Due+5)
		})
		for number := range h.Orders {
			changed("a shorter span", far, func(h *order.House) {
				o := &h.Orders[number]
				o.From = d.from(o.From, o.To)
				o.To = d.from(o.From, o.To)
			})
		}
	})
	enough(t, counts, "an instrument", "one more wanted", "a greater bound", "due later", "a shorter span")
}

// P8.11: instruments, orders and engines that are numbered otherwise.
func TestAnyOrder(t *testing.T) {
	houses(t, 1500, anyLimits(), func(d dice, h order.House, _ map[served]bool) {
		other := cloneHouse(h)
		d.Shuffle(len(h.Instruments), func(i, j int) {
			other.Instruments[i], other.Instruments[j] = other.Instruments[j], other.Instruments[i]
		})
		d.Shuffle(len(h.Orders), func(i, j int) { other.Orders[i], other.Orders[j] = other.Orders[j], other.Orders[i] })
		engines := d.Perm(len(h.Engines))
		for before, now := range engines {
			other.Engines[now] = h.Engines[before]
		}
		for i := range other.Instruments {
			other.Instruments[i].Engine = engines[other.Instruments[i].Engine]
		}
		_, worth := mustBest(t, h)
		_, otherWorth := mustBest(t, other)
		if most, otherMost := mustMost(t, h), mustMost(t, other); most != otherMost || worth != otherWorth {
			t.Errorf("%v: %d, worth %d; %v: %d, worth %d", h, most, worth, other, otherMost, otherWorth)
		}
	})
}

// P8.12: each kind alone.
func TestKindsAlone(t *testing.T) {
	several := 0
	houses(t, 1500, limits{instruments: 10, orders: 6, kinds: 5}, func(d dice, h order.House, _ map[served]bool) {
		sum, kinds := 0, 0
		for kind := range api.MaxOrderKinds {
			alone := cloneHouse(h)
			alone.Instruments = slices.DeleteFunc(alone.Instruments, func(x order.Instrument) bool { return x.Kind != kind })
			alone.Orders = slices.DeleteFunc(alone.Orders, func(o order.Order) bool { return o.Kind != kind })
			most := mustMost(t, alone)
			sum += most
			kinds += min(1, most)
		}
		several += kinds / 2
		if most := mustMost(t, h); most != sum {
			t.Errorf("%v: %d, but %d of each kind alone", h, most, sum)
		}
	})
	if several < 100 {
		t.Errorf("too few of a kind were tried: %d", several)
	}
}
