package order

import (
	"meniscus/api"
	"meniscus/lists"
)

// nowhere is in the place of the order of instruments that are for none.
const nowhere = -1

// sending tells for which order each instrument is.
type sending [api.MaxOrderInstruments]int

func nothingSent() sending {
	var s sending
	for instrument := range s {
		s[instrument] = nowhere
	}
	return s
}

// to are the instruments that are for the order, rising.
func (s sending) to(order int) []int {
	var list []int
	for instrument, where := range s {
		if where == order {
			list = append(list, instrument)
		}
	}
	return list
}

func (s sending) many() int { return len(s) - len(s.to(nowhere)) }

// send sends as many instruments as can be to these orders. An order that finds
// no instrument, even if other orders look for others in place of theirs, finds
// none later, either.
func (w work) send(orders []int) sending {
	sent := nothingSent()
	var asked [api.MaxOrderOrders]bool
	var find func(order int) bool
	find = func(order int) bool {
		asked[order] = true
		for instrument := range w.fitting(order) {
			holder := sent[instrument]
			if holder == nowhere || !asked[holder] && find(holder) {
				sent[instrument] = order
				return true
			}
		}
		return false
	}
search:
	for _, order := range orders {
		for range w.Orders[order].Wants {
			asked = [api.MaxOrderOrders]bool{}
			if !find(order) {
				continue search
			}
		}
	}
	return sent
}

func (w work) most() int { return w.send(w.allOrders()).many() }

func (w work) planOf(s sending) [][]int {
	plan := make([][]int, 0, len(w.Orders))
	for order := range w.Orders {
		plan = append(plan, s.to(order))
	}
	return plan
}

func lengths(plan [][]int) []int {
	list := make([]int, 0, len(plan))
	for _, l := range plan {
		list = append(list, len(l))
	}
	return list
}

// allows reports whether the lists are a plan of the house.
func (w work) allows(plan [][]int) bool {
	if len(plan) != len(w.Orders) {
		return false
	}
	sent := nothingSent()
	for order, list := range plan {
		if len(list) > w.Orders[order].Wants || !lists.Rises(list) {
			return false
		}
		for _, instrument := range list {
			if !w.hasInstrument(instrument) || sent[instrument] != nowhere || !w.fits(order, instrument) {
				return false
			}
			sent[instrument] = order
		}
	}
	return true
}
