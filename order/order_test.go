package order_test

import (
	"math"
	"slices"
	"testing"

	"meniscus/api"
	"meniscus/order"
	"meniscus/screw"
)

func to(lo, hi int) screw.Range { return screw.Range{Lo: lo, Hi: hi} }

// engine is the one of chapter 4's examples.
func engine() screw.Screw {
	return screw.Screw{
		Step:   10,
		Phases: []screw.Range{to(-2, -1), to(0, 1), to(1, 2)},
		Zones:  []screw.Zone{{From: 0, Wear: to(0, 0)}, {From: 6, Wear: to(0, 1)}},
		Ticks:  12,
	}
}

// exact has its ticks at 0, 10, 20 and so on.
func exact(ticks int) screw.Screw {
	return screw.Screw{Step: 10, Phases: []screw.Range{to(0, 0)}, Zones: []screw.Zone{{}}, Ticks: ticks}
}

func instrument(kind, ready int, scale ...int) order.Instrument {
	return order.Instrument{Kind: kind, Scale: scale, Ready: ready}
}

// example is the chapter's.
func example() order.House {
	return order.House{
		Engines: []screw.Screw{engine()},
		Instruments: []order.Instrument{
			instrument(0, 5, 20, 40, 60),
			instrument(0, 9, 20, 40, 70),
			instrument(1, 0, 0, 10),
		},
		Orders: []order.Order{
			{Kind: 0, Wants: 1, From: 20, To: 60, Bound: 4, Due: 10, Worth: 50},
			{Kind: 0, Wants: 2, From: 30, To: 50, Bound: 9, Due: 7, Worth: 80},
			{Kind: 1, Wants: 1, From: 0, To: 10, Bound: 2, Due: 9, Worth: 5},
		},
	}
}

// kinds is a house with exact instruments of these kinds, and no orders.
func kinds(list ...int) order.House {
	h := order.House{Engines: []screw.Screw{exact(1)}}
	for _, kind := range list {
		h.Instruments = append(h.Instruments, instrument(kind, 0, 0, 10))
	}
	return h
}

// wants is an order of a kind that asks for nothing else.
func wants(kind, many, worth int) order.Order {
	return order.Order{Kind: kind, Wants: many, From: 5, To: 5, Worth: worth}
}

// asked has these orders.
func asked(h order.House, orders ...order.Order) order.House {
	h.Orders = orders
	return h
}

// lines are so many places, each 10 behind the one before it.
func lines(many int) []int {
	var list []int
	for line := range many {
		list = append(list, 10*line)
	}
	return list
}

// P8.1: the chapter's example.
func TestBounds(t *testing.T) {
	for _, c := range []struct {
		name string
		h    order.House
		want []int
	}{
		{"the example", example(), []int{4, 4, 2}},
		{"no instruments", order.House{Engines: []screw.Screw{engine()}}, nil},
		{"exact ones", kinds(0, 1), []int{0, 0}},
		{"one scale, by several engines", order.House{
			Engines: []screw.Screw{exact(12), engine(), exact(3)},
			Instruments: []order.Instrument{
				{Scale: []int{20, 40, 60}}, {Scale: []int{20, 40, 60}, Engine: 1}, {Scale: []int{20, 40, 60}, Engine: 2},
				{Scale: []int{20, 40, 60}, Engine: 1, Kind: 3, Ready: 7}, {Scale: []int{20, 40}, Engine: 2}, {Scale: []int{0, 20, 40}},
			},
		}, []int{0, 4, 30, 4, 10, 0}},
		{"a first line that lies at 0", order.House{
			Engines:     []screw.Screw{exact(1)},
			Instruments: []order.Instrument{{Scale: []int{0}}, {Scale: []int{0, 1}}, {Scale: []int{1}}},
		}, []int{0, 9, 1}},
		{"as far as a bound can be", order.House{
			Engines:     []screw.Screw{exact(1)},
			Instruments: []order.Instrument{{Scale: []int{5000}}},
		}, []int{4990}},
	} {
		if got, e := order.Bounds(c.h); !slices.Equal(got, c.want) || e != api.OK {
			t.Errorf("%s: %v, %v, not %v", c.name, got, e, c.want)
		}
	}
}

// P8.2: the chapter's example, and each demand alone, just met and just not.
func TestFit(t *testing.T) {
	for number, want := range [][]int{{0, 1}, {0}, {2}} {
		if got, e := order.Fit(example(), number); !slices.Equal(got, want) || e != api.OK {
			t.Errorf("Fit of %d: %v, %v, not %v", number, got, e, want)
		}
	}
	for _, number := range []int{-1, 3, math.MinInt, math.MaxInt} {
		if got, e := order.Fit(example(), number); len(got) != 0 || e != api.ErrRange {
			t.Errorf("Fit of %d: %v, %v", number, got, e)
		}
	}
	// The instruments 0 and 1 are from 20 to 60, and to 70, with 4, on days 5 and 9.
	for _, c := range []struct {
		name string
		o    order.Order
		want []int
	}{
		{"all that both can", order.Order{From: 20, To: 60, Bound: 4, Due: 9}, []int{0, 1}},
		{"another kind", order.Order{Kind: 2, From: 20, To: 60, Bound: 4, Due: 9}, nil},
		{"a wider bound", order.Order{From: 20, To: 60, Bound: 5000, Due: 9}, []int{0, 1}},
		{"a narrower bound", order.Order{From: 20, To: 60, Bound: 3, Due: 9}, nil},
		{"a day before one is ready", order.Order{From: 20, To: 60, Bound: 4, Due: 8}, []int{0}},
		{"the day on which one is ready", order.Order{From: 20, To: 60, Bound: 4, Due: 5}, []int{0}},
		{"a day before both are", order.Order{From: 20, To: 60, Bound: 4, Due: 4}, nil},
		{"a place before both", order.Order{From: 19, To: 60, Bound: 4, Due: 9}, nil},
		{"a place behind one", order.Order{From: 20, To: 61, Bound: 4, Due: 9}, []int{1}},
		{"the last place of one", order.Order{From: 70, To: 70, Bound: 4, Due: 9}, []int{1}},
		{"a place behind both", order.Order{From: 20, To: 71, Bound: 4, Due: 9}, nil},
		{"only what lies before both", order.Order{From: 0, To: 19, Bound: 4, Due: 9}, nil},
		{"only what lies behind both", order.Order{From: 71, To: 80, Bound: 4, Due: 9}, nil},
		{"a place between lines", order.Order{From: 41, To: 41, Bound: 4, Due: 9}, []int{0, 1}},
		{"the first place", order.Order{From: 20, To: 20, Bound: 4, Due: 9}, []int{0, 1}},
	} {
		h := example()
		c.o.Wants = 1
		h.Orders[1] = c.o
		if got, e := order.Fit(h, 1); !slices.Equal(got, c.want) || e != api.OK {
			t.Errorf("%s: %v, %v, not %v", c.name, got, e, c.want)
		}
	}
}

// P8.3 to P8.5: the chapter's example, and others that were worked out by hand.
func TestOrders(t *testing.T) {
	// The second order can only have what the first one has as well.
	narrow := func(first, second order.Order) order.House {
		h := kinds(0, 0, 0)
		h.Instruments[0].Ready = 1
		first.Due = 1
		return asked(h, first, second)
	}
	for _, c := range []struct {
		name  string
		h     order.House
		most  int
		lack  bool
		best  []int
		worth int
	}{
		{"the example", example(), 3, true, []int{0, 2}, 55},
		{"no orders", kinds(0, 1), 0, false, nil, 0},
		{"no instruments", asked(kinds(), wants(0, 1, 9)), 0, true, nil, 0},
		{"neither", kinds(), 0, false, nil, 0},
		{"as many as are wanted", asked(kinds(0, 0), wants(0, 2, 7)), 2, false, []int{0}, 7},
		{"one more than is wanted", asked(kinds(0, 0), wants(0, 1, 7)), 1, false, []int{0}, 7},
		{"one less than is wanted", asked(kinds(0, 0), wants(0, 3, 7)), 2, true, nil, 0},
		{"another kind", asked(kinds(0, 0), wants(1, 1, 7)), 0, true, nil, 0},
		{"one of two orders", asked(kinds(0), wants(0, 1, 7), wants(0, 1, 8)), 1, true, []int{1}, 8},
		{"one of two that are worth as much", asked(kinds(0), wants(0, 1, 8), wants(0, 1, 8)), 1, true, []int{0}, 8},
		{"one order instead of two", asked(kinds(0, 0), wants(0, 1, 4), wants(0, 1, 4), wants(0, 2, 8)), 2, true, []int{2}, 8},
		{"two orders instead of one", asked(kinds(0, 0), wants(0, 1, 4), wants(0, 1, 5), wants(0, 2, 8)), 2, true, []int{0, 1}, 9},
		{"worth nothing", asked(kinds(0, 0), wants(0, 1, 0), wants(0, 1, 5)), 2, false, []int{1}, 5},
		{"all worth nothing", asked(kinds(0, 0), wants(0, 1, 0), wants(0, 1, 0)), 2, false, nil, 0},
		{"the first order takes what the second one needs", narrow(wants(0, 1, 1), wants(0, 2, 1)), 3, false, []int{0, 1}, 2},
		{"and more", narrow(wants(0, 2, 1), wants(0, 2, 1)), 3, true, []int{0}, 1},
		{"two kinds", asked(kinds(0, 1, 1), wants(0, 2, 9), wants(1, 1, 3), wants(1, 1, 4)), 3, true, []int{1, 2}, 7},
		{"all at once", asked(kinds(0, 0, 0, 0, 0, 1, 1, 1, 1, 1), wants(0, 5, 1000), wants(1, 5, 1000), wants(0, 1, 1000)), 10, true, []int{0, 1}, 2000},
	} {
		most, e := order.Most(c.h)
		if most != c.most || e != api.OK {
			t.Errorf("%s: Most: %d, %v, not %d", c.name, most, e, c.most)
		}
		plan, e := order.Serve(c.h)
		if e != api.OK || !isPlan(c.h, plan) || sentBy(plan) != c.most {
			t.Errorf("%s: Serve: %v, %v", c.name, plan, e)
		}
		lack, e := order.Lack(c.h)
		if !c.lack && (len(lack) != 0 || e != api.ErrNone) {
			t.Errorf("%s: Lack: %v, %v, not %v", c.name, lack, e, api.ErrNone)
		}
		if c.lack && (e != api.OK || !rises(lack) || wantedByAll(c.h)-lackOf(c.h, lack) != c.most) {
			t.Errorf("%s: Lack: %v, %v", c.name, lack, e)
		}
		best, worth, e := order.Best(c.h)
		if !slices.Equal(best, c.best) || worth != c.worth || e != api.OK {
			t.Errorf("%s: Best: %v, %d, %v, not %v, %d", c.name, best, worth, e, c.best, c.worth)
		}
	}
	if lack, e := order.Lack(example()); !slices.Equal(lack, []int{1}) || e != api.OK {
		t.Errorf("Lack of the example: %v, %v", lack, e)
	}
	if plan, _ := order.Serve(example()); !slices.EqualFunc(plan, [][]int{{1}, {0}, {2}}, slices.Equal[[]int]) {
		t.Errorf("Serve of the example: %v", plan)
	}
}

// The document's example 8.
func TestThreeOfThree(t *testing.T) {
	h := example()
	h.Instruments[2].Kind = 0
	h.Orders[0] = order.Order{Wants: 1, From: 20, To: 60, Bound: 4, Due: 10}
	h.Orders[1] = order.Order{Wants: 1, From: 20, To: 60, Bound: 4, Due: 5}
	h.Orders[2] = order.Order{Wants: 1, From: 0, To: 10, Bound: 4, Due: 5}
	for number, want := range [][]int{{0, 1}, {0}, {2}} {
		if got, e := order.Fit(h, number); !slices.Equal(got, want) || e != api.OK {
			t.Errorf("Fit of %d: %v, %v, not %v", number, got, e, want)
		}
	}
	if most, e := order.Most(h); most != 3 || e != api.OK {
		t.Errorf("Most: %d, %v", most, e)
	}
}

// P8.3: what is a plan, and what is not.
func TestProvePlan(t *testing.T) {
	none := example()
	none.Engines = nil
	for _, c := range []struct {
		name string
		h    order.House
		plan [][]int
		many int
		want bool
	}{
		{"the best one", example(), [][]int{{1}, {0}, {2}}, 3, true},
		{"for fewer", example(), [][]int{{1}, {0}, {2}}, 2, true},
		{"for any number", example(), [][]int{{1}, {0}, {2}}, math.MinInt, true},
		{"for more", example(), [][]int{{1}, {0}, {2}}, 4, false},
		{"for far more", example(), [][]int{{1}, {0}, {2}}, math.MaxInt, false},
		{"one that sends fewer", example(), [][]int{{1}, {}, {2}}, 2, true},
		{"one that sends fewer, for more", example(), [][]int{{1}, {}, {2}}, 3, false},
		{"one that sends nothing", example(), [][]int{nil, {}, nil}, 0, true},
		{"another one", example(), [][]int{{0}, {}, {2}}, 2, true},
		{"an instrument twice", example(), [][]int{{0}, {0}, {2}}, 0, false},
		{"an instrument twice in one list", asked(kinds(0, 0), wants(0, 2, 0)), [][]int{{0, 0}}, 0, false},
		{"one that does not fit", example(), [][]int{{0}, {1}, {2}}, 0, false},
		{"one of another kind", example(), [][]int{{2}, {0}, {}}, 0, false},
		{"more than are wanted", example(), [][]int{{0, 1}, {}, {2}}, 0, false},
		{"as many as are wanted", asked(kinds(0, 0), wants(0, 2, 0)), [][]int{{0, 1}}, 2, true},
		{"a list that does not rise", asked(kinds(0, 0), wants(0, 2, 0)), [][]int{{1, 0}}, 0, false},
		{"no such instrument", example(), [][]int{{3}, {0}, {2}}, 0, false},
		{"an instrument below 0", example(), [][]int{{-1}, {0}, {2}}, 0, false},
		{"far instruments", example(), [][]int{{math.MaxInt}, {math.MinInt}, {2}}, 0, false},
		{"a list too few", example(), [][]int{{1}, {0}}, 0, false},
		{"a list too many", example(), [][]int{{1}, {0}, {2}, {}}, 0, false},
		{"no lists", example(), nil, 0, false},
		{"no lists for no orders", kinds(0), nil, 0, true},
		{"no lists for no orders, and one to send", kinds(0), nil, 1, false},
		{"a list for no orders", kinds(0), [][]int{{}}, 0, false},
		{"no house", none, [][]int{{}, {}, {}}, 0, false},
		{"nothing", order.House{}, nil, 0, false},
	} {
		if is := order.ProvePlan(c.h, c.plan, c.many); is != c.want {
			t.Errorf("%s: %v", c.name, is)
		}
	}
}

// P8.4: what is a proof, and what is not. In the example all want 4.
func TestProveLack(t *testing.T) {
	none := example()
	none.Engines = nil
	for _, c := range []struct {
		name   string
		h      order.House
		orders []int
		many   int
		want   bool
	}{
		{"the example", example(), []int{1}, 3, true},
		{"for more", example(), []int{1}, 4, true},
		{"for any number", example(), []int{1}, math.MaxInt, true},
		{"for fewer", example(), []int{1}, 2, false},
		{"for far fewer", example(), []int{1}, math.MinInt, false},
		{"another one", example(), []int{0, 1}, 3, true},
		{"all orders", example(), []int{0, 1, 2}, 3, true},
		{"one that lacks nothing", example(), []int{2}, 3, false},
		{"one that lacks nothing, for all", example(), []int{2}, 4, true},
		{"one with more than it wants", example(), []int{0}, 4, false},
		{"one with more than it wants, for that", example(), []int{0}, 5, true},
		{"no orders", example(), nil, 4, true},
		{"no orders, for fewer", example(), nil, 3, false},
		{"no such order", example(), []int{1, 3}, 9, false},
		{"an order below 0", example(), []int{-1, 1}, 9, false},
		{"far orders", example(), []int{math.MinInt, math.MaxInt}, 9, false},
		{"an order twice", example(), []int{1, 1}, 9, false},
		{"orders that do not rise", example(), []int{1, 0}, 9, false},
		{"no orders at all", kinds(0), nil, 0, true},
		{"no orders at all, for fewer", kinds(0), nil, -1, false},
		{"no instruments", asked(kinds(), wants(0, 5, 0), wants(1, 5, 0)), []int{0, 1}, 0, true},
		{"no house", none, []int{1}, 9, false},
		{"nothing", order.House{}, nil, 9, false},
	} {
		if is := order.ProveLack(c.h, c.orders, c.many); is != c.want {
			t.Errorf("%s: %v", c.name, is)
		}
	}
}

// P8.1: each limit of houses, and one beyond it.
func TestCheckHouse(t *testing.T) {
	const ok, arg, limit = api.OK, api.ErrArg, api.ErrLimit
	for _, c := range []struct {
		name   string
		change func(h *order.House, x *order.Instrument, o *order.Order)
		want   api.Errno
	}{
		{"the example", func(h *order.House, x *order.Instrument, o *order.Order) {}, ok},
		{"nothing", func(h *order.House, x *order.Instrument, o *order.Order) { *h = order.House{} }, arg},
		{"no engines", func(h *order.House, x *order.Instrument, o *order.Order) { h.Engines, h.Instruments = nil, nil }, arg},
		{"only an engine", func(h *order.House, x *order.Instrument, o *order.Order) { h.Instruments, h.Orders = nil, nil }, ok},
		{"as many engines as there may be", func(h *order.House, x *order.Instrument, o *order.Order) { h.Engines = slices.Repeat(h.Engines, 3) }, ok},
		{"one more", func(h *order.House, x *order.Instrument, o *order.Order) { h.Engines = slices.Repeat(h.Engines, 4) }, limit},
		{"as many instruments as there may be", func(h *order.House, x *order.Instrument, o *order.Order) {
			h.Instruments = slices.Repeat(h.Instruments[:1], 10)
		}, ok},
		{"one more", func(h *order.House, x *order.Instrument, o *order.Order) {
			h.Instruments = slices.Repeat(h.Instruments[:1], 11)
		}, limit},
		{"as many orders as there may be", func(h *order.House, x *order.Instrument, o *order.Order) { h.Orders = slices.Repeat(h.Orders, 2) }, ok},
		{"one more", func(h *order.House, x *order.Instrument, o *order.Order) {
			h.Orders = append(slices.Repeat(h.Orders, 2), h.Orders[0])
		}, limit},
		{"an engine that is none", func(h *order.House, x *order.Instrument, o *order.Order) {
			h.Engines = append(h.Engines, screw.Screw{})
		}, arg},
		{"an engine with too many phases", func(h *order.House, x *order.Instrument, o *order.Order) {
			h.Engines = append(h.Engines, screw.Screw{Phases: make([]screw.Range, 9)})
		}, limit},
		{"an engine with too many zones", func(h *order.House, x *order.Instrument, o *order.Order) {
			h.Engines = append(h.Engines, screw.Screw{Zones: make([]screw.Zone, 4)})
		}, limit},
		{"an engine that does not go on", func(h *order.House, x *order.Instrument, o *order.Order) { h.Engines[0].Step = 2 }, arg},

		{"the greatest kind", func(h *order.House, x *order.Instrument, o *order.Order) { x.Kind = 4 }, ok},
		{"one beyond it", func(h *order.House, x *order.Instrument, o *order.Order) { x.Kind = 5 }, arg},
		{"a kind below 0", func(h *order.House, x *order.Instrument, o *order.Order) { x.Kind = -1 }, arg},
		{"an engine behind the last one", func(h *order.House, x *order.Instrument, o *order.Order) { x.Engine = 1 }, arg},
		{"the last engine", func(h *order.House, x *order.Instrument, o *order.Order) {
			h.Engines, x.Engine = append(h.Engines, exact(9)), 1
		}, ok},
		{"an engine below 0", func(h *order.House, x *order.Instrument, o *order.Order) { x.Engine = -1 }, arg},
		{"ready at once", func(h *order.House, x *order.Instrument, o *order.Order) { x.Ready = 0 }, ok},
		{"ready before that", func(h *order.House, x *order.Instrument, o *order.Order) { x.Ready = -1 }, arg},
		{"ready on the last day", func(h *order.House, x *order.Instrument, o *order.Order) { x.Ready = 100 }, ok},
		{"ready behind it", func(h *order.House, x *order.Instrument, o *order.Order) { x.Ready = 101 }, arg},
		{"no lines", func(h *order.House, x *order.Instrument, o *order.Order) { x.Scale = nil }, arg},
		{"one line", func(h *order.House, x *order.Instrument, o *order.Order) { x.Scale = []int{0} }, ok},
		{"as many lines as there may be", func(h *order.House, x *order.Instrument, o *order.Order) { x.Scale = lines(10) }, ok},
		{"one more", func(h *order.House, x *order.Instrument, o *order.Order) { x.Scale = lines(11) }, arg},
		{"one more, where the others are as those of another instrument", func(h *order.House, x *order.Instrument, o *order.Order) {
			h.Instruments[0].Scale, x.Scale = lines(10), append(lines(10), 200)
		}, arg},
		{"the greatest place", func(h *order.House, x *order.Instrument, o *order.Order) { x.Scale = []int{0, 5000} }, ok},
		{"one beyond it", func(h *order.House, x *order.Instrument, o *order.Order) { x.Scale = []int{0, 5001} }, arg},
		{"a place below 0", func(h *order.House, x *order.Instrument, o *order.Order) { x.Scale = []int{-1, 5} }, arg},
		{"a place twice", func(h *order.House, x *order.Instrument, o *order.Order) { x.Scale = []int{5, 5} }, arg},
		{"places that do not rise", func(h *order.House, x *order.Instrument, o *order.Order) { x.Scale = []int{5, 9, 8} }, arg},
		{"as many lines as there are ticks, and one", func(h *order.House, x *order.Instrument, o *order.Order) {
			h.Engines, x.Engine, x.Scale = append(h.Engines, exact(3)), 1, lines(4)
		}, ok},
		{"one more", func(h *order.House, x *order.Instrument, o *order.Order) {
			h.Engines, x.Engine, x.Scale = append(h.Engines, exact(3)), 1, lines(5)
		}, arg},
		{"one more, but another engine can cut it", func(h *order.House, x *order.Instrument, o *order.Order) {
			h.Engines, x.Engine, x.Scale = append(h.Engines, exact(3)), 1, lines(5)
			h.Instruments[0].Scale = lines(5)
		}, arg},

		{"an order of the greatest kind", func(h *order.House, x *order.Instrument, o *order.Order) { o.Kind = 4 }, ok},
		{"one beyond it", func(h *order.House, x *order.Instrument, o *order.Order) { o.Kind = 5 }, arg},
		{"a kind below 0", func(h *order.House, x *order.Instrument, o *order.Order) { o.Kind = -1 }, arg},
		{"as many as it may want", func(h *order.House, x *order.Instrument, o *order.Order) { o.Wants = 5 }, ok},
		{"one more", func(h *order.House, x *order.Instrument, o *order.Order) { o.Wants = 6 }, arg},
		{"nothing wanted", func(h *order.House, x *order.Instrument, o *order.Order) { o.Wants = 0 }, arg},
		{"all places", func(h *order.House, x *order.Instrument, o *order.Order) { o.From, o.To = 0, 5000 }, ok},
		{"the last place", func(h *order.House, x *order.Instrument, o *order.Order) { o.From, o.To = 5000, 5000 }, ok},
		{"a place below them", func(h *order.House, x *order.Instrument, o *order.Order) { o.From, o.To = -1, 5000 }, arg},
		{"a place beyond them", func(h *order.House, x *order.Instrument, o *order.Order) { o.From, o.To = 0, 5001 }, arg},
		{"only a place beyond them", func(h *order.House, x *order.Instrument, o *order.Order) { o.From, o.To = 5001, 5001 }, arg},
		{"only a place below them", func(h *order.House, x *order.Instrument, o *order.Order) { o.From, o.To = -1, -1 }, arg},
		{"no places", func(h *order.House, x *order.Instrument, o *order.Order) { o.From, o.To = 31, 30 }, arg},
		{"the least bound", func(h *order.House, x *order.Instrument, o *order.Order) { o.Bound = 0 }, ok},
		{"one below it", func(h *order.House, x *order.Instrument, o *order.Order) { o.Bound = -1 }, arg},
		{"the greatest bound", func(h *order.House, x *order.Instrument, o *order.Order) { o.Bound = 5000 }, ok},
		{"one beyond it", func(h *order.House, x *order.Instrument, o *order.Order) { o.Bound = 5001 }, arg},
		{"due at once", func(h *order.House, x *order.Instrument, o *order.Order) { o.Due = 0 }, ok},
		{"due before that", func(h *order.House, x *order.Instrument, o *order.Order) { o.Due = -1 }, arg},
		{"due on the last day", func(h *order.House, x *order.Instrument, o *order.Order) { o.Due = 100 }, ok},
		{"due behind it", func(h *order.House, x *order.Instrument, o *order.Order) { o.Due = 101 }, arg},
		{"worth nothing", func(h *order.House, x *order.Instrument, o *order.Order) { o.Worth = 0 }, ok},
		{"worth less", func(h *order.House, x *order.Instrument, o *order.Order) { o.Worth = -1 }, arg},
		{"worth as much as can be", func(h *order.House, x *order.Instrument, o *order.Order) { o.Worth = 1000 }, ok},
		{"worth more", func(h *order.House, x *order.Instrument, o *order.Order) { o.Worth = 1001 }, arg},
		{"far numbers", func(h *order.House, x *order.Instrument, o *order.Order) {
			*o = order.Order{Kind: math.MinInt, Wants: math.MaxInt, From: math.MinInt, To: math.MaxInt}
		}, arg},
	} {
		h := example()
		c.change(&h, &h.Instruments[2], &h.Orders[1])
		if e := order.CheckHouse(h); e != c.want {
			t.Errorf("%s: %v, not %v", c.name, e, c.want)
		}
	}
}
