package order

import (
	"meniscus/api"
	"meniscus/lists"
	"meniscus/screw"
)

func isKind(number int) bool { return 0 <= number && number < api.MaxOrderKinds }

func isDay(number int) bool { return 0 <= number && number <= api.MaxOrderDay }

// isPlace is asked of bounds as well: they go as far as places do.
func isPlace(number int) bool { return 0 <= number && number <= api.MaxScrewPlace }

func (o Order) valid() bool {
	return isKind(o.Kind) && 1 <= o.Wants && o.Wants <= api.MaxOrderWants &&
		isPlace(o.From) && isPlace(o.To) && o.From <= o.To &&
		isPlace(o.Bound) && isDay(o.Due) && 0 <= o.Worth && o.Worth <= api.MaxOrderWorth
}

func (h House) hasEngine(number int) bool { return 0 <= number && number < len(h.Engines) }

func (h House) hasInstrument(number int) bool { return 0 <= number && number < len(h.Instruments) }

func (h House) hasOrder(number int) bool { return 0 <= number && number < len(h.Orders) }

// has reports whether the instrument is one of the house, whatever its scale is.
func (h House) has(x Instrument) bool {
	return isKind(x.Kind) && h.hasEngine(x.Engine) && isDay(x.Ready)
}

// cutScale is a scale, and the engine that cuts it.
type cutScale struct {
	engine, lines int
	places        [api.MaxScrewLines]int
}

func (x Instrument) cutScale() cutScale {
	c := cutScale{engine: x.Engine, lines: len(x.Scale)}
	for line := range min(len(x.Scale), len(c.places)) {
		c.places[line] = x.Scale[line]
	}
	return c
}

// stocked is an instrument with the bound that is printed on it.
type stocked struct {
	Instrument
	bound int
}

// takeStock has all instruments, and reports whether the engines can cut their
// scales. Those that one engine cuts alike have one bound.
func (h House) takeStock() ([]stocked, bool) {
	list := make([]stocked, 0, len(h.Instruments))
	printed := map[cutScale]int{}
	for _, x := range h.Instruments {
		c := x.cutScale()
		bound, known := printed[c]
		if !known {
			least, e := screw.Printed(h.Engines[x.Engine], x.Scale)
			if e != api.OK {
				return nil, false
			}
			bound = least
			printed[c] = bound
		}
		list = append(list, stocked{Instrument: x, bound: bound})
	}
	return list, true
}

// work is a house at work: it is valid, and its instruments have their bounds.
type work struct {
	House
	stock []stocked
}

func open(h House) (work, api.Errno) {
	if len(h.Engines) > api.MaxOrderEngines || len(h.Instruments) > api.MaxOrderInstruments || len(h.Orders) > api.MaxOrderOrders {
		return work{}, api.ErrLimit
	}
	for _, s := range h.Engines {
		if e := screw.CheckScrew(s); e != api.OK {
			return work{}, e
		}
	}
	if len(h.Engines) == 0 || !lists.All(h.Instruments, h.has) || !lists.All(h.Orders, Order.valid) {
		return work{}, api.ErrArg
	}
	stock, ok := h.takeStock()
	if !ok {
		return work{}, api.ErrArg
	}
	return work{House: h, stock: stock}, api.OK
}

func (w work) bounds() []int {
	list := make([]int, 0, len(w.stock))
	for _, x := range w.stock {
		list = append(list, x.bound)
	}
	return list
}
