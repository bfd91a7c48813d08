package order_test

import (
	"math/rand/v2"
	"slices"

	"meniscus/api"
	"meniscus/order"
	"meniscus/screw"
)

// This file has what the chapter defines, word by word and without haste, for
// the properties to be held against.

// dice give the same numbers in each run.
type dice struct{ *rand.Rand }

func newDice(seed uint64) dice { return dice{rand.New(rand.NewPCG(seed, 8))} }

func (d dice) from(lo, hi int) int { return lo + d.IntN(hi-lo+1) }

// near is a number from lo to hi that is not far from the other one.
func (d dice) near(number, lo, hi int) int { return max(lo, min(number+d.from(-2, 4), hi)) }

// rising are so many numbers from lo to hi, each greater than the one before it.
func (d dice) rising(many, lo, hi int) []int {
	list := d.Perm(hi - lo + 1)[:many]
	slices.Sort(list)
	for i := range list {
		list[i] += lo
	}
	return list
}

func (d dice) part(lo, hi int) screw.Range {
	low := d.from(lo, hi)
	return screw.Range{Lo: low, Hi: d.from(low, min(hi, low+2))}
}

func (d dice) engine() screw.Screw {
	s := screw.Screw{Step: d.from(9, 20), Ticks: d.from(2, 20)}
	for range d.from(1, 3) {
		s.Phases = append(s.Phases, d.part(-4, 4))
	}
	for i, from := range d.rising(d.from(1, api.MaxScrewZones), 0, 20) {
		s.Zones = append(s.Zones, screw.Zone{From: min(i, 1) * from, Wear: d.part(-2, 2)})
	}
	return s
}

// scale has lines near places that the engine can cut.
func (d dice) scale(s screw.Screw) []int {
	ticks := d.rising(d.from(1, min(4, s.Ticks+1)), 0, s.Ticks)
	for line, tick := range ticks {
		ticks[line] = max(0, tick*s.Step+d.from(-3, 3)) + line
	}
	slices.Sort(ticks)
	return slices.Compact(ticks)
}

// limits tell how large what dice make is.
type limits struct{ instruments, orders, kinds int }

func anyLimits() limits {
	return limits{instruments: api.MaxOrderInstruments, orders: api.MaxOrderOrders, kinds: 3}
}

func (d dice) house(l limits) order.House {
	var h order.House
	for range d.from(1, api.MaxOrderEngines) {
		h.Engines = append(h.Engines, d.engine())
	}
	for range d.from(0, l.instruments) {
		h.Instruments = append(h.Instruments, d.instrument(h, l))
	}
	for range d.from(0, l.orders) {
		h.Orders = append(h.Orders, d.order(h, l))
	}
	return h
}

func (d dice) instrument(h order.House, l limits) order.Instrument {
	x := order.Instrument{Kind: d.IntN(l.kinds), Engine: d.IntN(len(h.Engines)), Ready: d.from(0, 9)}
	x.Scale = d.scale(h.Engines[x.Engine])
	// As often as not its scale is one that was cut before.
	if n := len(h.Instruments); n > 0 && d.IntN(2) == 0 {
		like := h.Instruments[d.IntN(n)]
		x.Engine, x.Scale = like.Engine, slices.Clone(like.Scale)
	}
	return x
}

// order nearly fits one of the instruments, as often as there are some.
func (d dice) order(h order.House, l limits) order.Order {
	o := order.Order{Kind: d.IntN(l.kinds), Wants: d.from(1, api.MaxOrderWants), Due: d.from(0, 12), Bound: d.from(0, 20)}
	o.Worth = d.IntN(4) * d.from(0, 30)
	o.From = d.from(0, 200)
	o.To = d.from(o.From, o.From+100)
	if len(h.Instruments) > 0 {
		x := h.Instruments[d.IntN(len(h.Instruments))]
		first, last := x.Scale[0], x.Scale[len(x.Scale)-1]
		o.Kind, o.Due, o.Bound = x.Kind, d.near(x.Ready, 0, 100), d.near(boundOf(h, x), 0, 5000)
		o.From = max(0, d.from(first, last)-d.IntN(6)/5)
		o.To = d.from(max(o.From, first), last) + d.IntN(6)/5
		o.Wants = d.from(1, 1+d.IntN(api.MaxOrderWants))
	}
	return o
}

func boundOf(h order.House, x order.Instrument) int {
	bound, _ := screw.Printed(h.Engines[x.Engine], x.Scale)
	return bound
}

func fits(h order.House, x order.Instrument, o order.Order) bool {
	first, last := x.Scale[0], x.Scale[len(x.Scale)-1]
	return x.Kind == o.Kind &&
		first <= o.From && o.From <= last && first <= o.To && o.To <= last &&
		boundOf(h, x) <= o.Bound && x.Ready <= o.Due
}

// fitting are the instruments that fit the order.
func fitting(h order.House, o order.Order) []int {
	var list []int
	for number, x := range h.Instruments {
		if fits(h, x, o) {
			list = append(list, number)
		}
	}
	return list
}

// served is how many instruments each order has by a plan.
type served [api.MaxOrderOrders]int

// allServed is what all plans come to: each instrument is for one of the orders
// that it fits, and that wants more, or for none.
func allServed(h order.House) map[served]bool {
	all := map[served]bool{{}: true}
	for number := range h.Instruments {
		next := map[served]bool{}
		for s := range all {
			next[s] = true
			for n, o := range h.Orders {
				if s[n] < o.Wants && slices.Contains(fitting(h, o), number) {
					more := s
					more[n]++
					next[more] = true
				}
			}
		}
		all = next
	}
	return all
}

func mostOf(all map[served]bool) int {
	most := 0
	for s := range all {
		sent := 0
		for _, many := range s {
			sent += many
		}
		most = max(most, sent)
	}
	return most
}

// together reports whether some plan serves all of these orders.
func together(h order.House, all map[served]bool, orders []int) bool {
	for s := range all {
		if !slices.ContainsFunc(orders, func(n int) bool { return s[n] < h.Orders[n].Wants }) {
			return true
		}
	}
	return false
}

func worthOf(h order.House, orders []int) int {
	worth := 0
	for _, n := range orders {
		worth += h.Orders[n].Worth
	}
	return worth
}

// lists are all rising lists of orders: the shorter ones first, of one length the
// lesser ones first.
func lists(h order.House) [][]int {
	var all [][]int
	for bits := range 1 << len(h.Orders) {
		var list []int
		for n := range h.Orders {
			if bits>>n&1 == 1 {
				list = append(list, n)
			}
		}
		all = append(all, list)
	}
	slices.SortFunc(all, func(a, b []int) int {
		if len(a) != len(b) {
			return len(a) - len(b)
		}
		return slices.Compare(a, b)
	})
	return all
}

// bestOf are the best orders.
func bestOf(h order.House, all map[served]bool) []int {
	var best []int
	for _, orders := range lists(h) {
		if together(h, all, orders) && worthOf(h, orders) > worthOf(h, best) {
			best = orders
		}
	}
	return best
}

func wantedOf(h order.House, orders []int) int {
	wanted := 0
	for _, n := range orders {
		wanted += h.Orders[n].Wants
	}
	return wanted
}

func lackOf(h order.House, orders []int) int {
	some := map[int]bool{}
	for _, n := range orders {
		for _, number := range fitting(h, h.Orders[n]) {
			some[number] = true
		}
	}
	return wantedOf(h, orders) - len(some)
}

// wantedByAll is how many instruments all orders want.
func wantedByAll(h order.House) int {
	wanted := 0
	for _, o := range h.Orders {
		wanted += o.Wants
	}
	return wanted
}

func rises(list []int) bool {
	for i := range list {
		if i > 0 && list[i] <= list[i-1] {
			return false
		}
	}
	return true
}

func isPlan(h order.House, plan [][]int) bool {
	if len(plan) != len(h.Orders) {
		return false
	}
	in := map[int]int{}
	for n, list := range plan {
		if !rises(list) || len(list) > h.Orders[n].Wants {
			return false
		}
		for _, number := range list {
			if !slices.Contains(fitting(h, h.Orders[n]), number) {
				return false
			}
			in[number]++
			if in[number] > 1 {
				return false
			}
		}
	}
	return true
}

func sentBy(plan [][]int) int {
	sent := 0
	for _, list := range plan {
		sent += len(list)
	}
	return sent
}
