package order

import (
	"iter"

	"meniscus/lists"
)

func (o Order) isOfKind(x stocked) bool { return o.Kind == x.Kind }

func (o Order) isInSpan(x stocked) bool {
	first, last := x.Scale[0], x.Scale[len(x.Scale)-1]
	return first <= o.From && o.To <= last
}

func (o Order) allowsBound(x stocked) bool { return x.bound <= o.Bound }

func (o Order) waitsFor(x stocked) bool { return x.Ready <= o.Due }

// demand is something that an order asks of each instrument.
type demand struct {
	isMet func(o Order, x stocked) bool
}

func demands() []demand {
	return []demand{{isMet: Order.isOfKind}, {isMet: Order.isInSpan}, {isMet: Order.allowsBound}, {isMet: Order.waitsFor}}
}

func (w work) fits(order, instrument int) bool {
	o, x := w.Orders[order], w.stock[instrument]
	return lists.All(demands(), func(d demand) bool { return d.isMet(o, x) })
}

// fitting are the instruments that fit the order, rising.
func (w work) fitting(order int) iter.Seq[int] {
	return func(yield func(instrument int) bool) {
		for instrument := range len(w.stock) {
			if w.fits(order, instrument) && !yield(instrument) {
				return
			}
		}
	}
}
