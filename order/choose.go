package order

import (
	"slices"

	"meniscus/lists"
)

func (o Order) wanted() int { return o.Wants }

func (o Order) worth() int { return o.Worth }

// total is the sum of what these orders have of something.
func (h House) total(orders []int, of func(Order) int) int {
	list := make([]int, 0, len(orders))
	for _, order := range orders {
		list = append(list, of(h.Orders[order]))
	}
	return lists.Sum(list...)
}

func (h House) allOrders() []int {
	list := make([]int, 0, len(h.Orders))
	for order := range h.Orders {
		list = append(list, order)
	}
	return list
}

// wanted is how many instruments all orders want.
func (h House) wanted() int { return h.total(h.allOrders(), Order.wanted) }

// manyFitting counts the instruments that fit at least one of the orders.
func (w work) manyFitting(orders []int) int {
	many := 0
	for instrument := range len(w.stock) {
		if slices.ContainsFunc(orders, func(order int) bool { return w.fits(order, instrument) }) {
			many++
		}
	}
	return many
}

func (w work) lack(orders []int) int {
	return w.total(orders, Order.wanted) - w.manyFitting(orders)
}

// atMost is how many instruments a plan sends at most, as the orders show.
func (w work) atMost(orders []int) int { return w.wanted() - w.lack(orders) }

// proofOf has the fewest orders that show that no more can be sent than the
// most. There always are some: what cannot be sent is lacked by those orders that
// look for it in vain, and by those that they ask.
func (w work) proofOf(most int) []int {
	for orders := range lists.Choices(len(w.Orders)) {
		if w.atMost(orders) == most {
			return orders
		}
	}
	return nil
}

func (w work) goTogether(orders []int) bool {
	return w.send(orders).many() == w.total(orders, Order.wanted)
}

// best looks at fewer orders first, so of several that are worth as much it has
// the right ones.
func (w work) best() (orders []int, worth int) {
	for choice := range lists.Choices(len(w.Orders)) {
		if more := w.total(choice, Order.worth); more > worth && w.goTogether(choice) {
			orders, worth = choice, more
		}
	}
	return orders, worth
}
