package order_test

import (
	"math"
	"slices"
	"testing"

	"meniscus/api"
	"meniscus/order"
	"meniscus/screw"
)

// results are what each call that can have an error returns.
type results struct {
	bounds, fit []int
	most        int
	plan        [][]int
	lack, best  []int
	worth       int
	errors      [7]api.Errno
}

// The places of the calls in results.errors.
const (
	ofCheckHouse = iota
	ofBounds
	ofFit
	ofMost
	ofServe
	ofLack
	ofBest
)

func callAll(h order.House, number int) results {
	var r results
	r.errors[ofCheckHouse] = order.CheckHouse(h)
	r.bounds, r.errors[ofBounds] = order.Bounds(h)
	r.fit, r.errors[ofFit] = order.Fit(h, number)
	r.most, r.errors[ofMost] = order.Most(h)
	r.plan, r.errors[ofServe] = order.Serve(h)
	r.lack, r.errors[ofLack] = order.Lack(h)
	r.best, r.worth, r.errors[ofBest] = order.Best(h)
	return r
}

// zeroWithErrors reports whether each result that comes with an error is zero.
func (r results) zeroWithErrors() bool {
	zero := [7]bool{
		true, len(r.bounds) == 0, len(r.fit) == 0, r.most == 0, len(r.plan) == 0,
		len(r.lack) == 0, len(r.best) == 0 && r.worth == 0,
	}
	for call, e := range r.errors {
		if e != api.OK && !zero[call] {
			return false
		}
	}
	return true
}

func (r results) same(other results) bool {
	return slices.Equal(r.bounds, other.bounds) && slices.Equal(r.fit, other.fit) && r.most == other.most &&
		slices.EqualFunc(r.plan, other.plan, slices.Equal[[]int]) && slices.Equal(r.lack, other.lack) &&
		slices.Equal(r.best, other.best) && r.worth == other.worth && r.errors == other.errors
}

// R1 and R2, with the chapter's table of errors: each case has what its name
// says, and all that would come later.
func TestWhichErrorComesFirst(t *testing.T) {
	const ok, arg, rng, limit, none = api.OK, api.ErrArg, api.ErrRange, api.ErrLimit, api.ErrNone
	all := func(e api.Errno) [7]api.Errno { return [7]api.Errno{e, e, e, e, e, e, e} }
	noScrew, tooLong := screw.Screw{}, screw.Screw{Phases: make([]screw.Range, 9)}
	broken := func(h *order.House) {
		h.Instruments, h.Orders = make([]order.Instrument, 10), make([]order.Order, 6)
	}
	for _, c := range []struct {
		name   string
		change func(h *order.House)
		number int
		want   [7]api.Errno
	}{
		{"nothing wrong", func(h *order.House) {}, 2, all(ok)},
		{"too many engines, and nothing is right", func(h *order.House) { broken(h); h.Engines = make([]screw.Screw, 4) }, 9, all(limit)},
		{"too many instruments, and an engine that is none", func(h *order.House) { h.Engines[0] = noScrew; h.Instruments = make([]order.Instrument, 11) }, 9, all(limit)},
		{"too many orders, and an engine that is none", func(h *order.House) { h.Engines[0] = noScrew; h.Orders = make([]order.Order, 7) }, 9, all(limit)},
		{"too many orders, and no engines", func(h *order.House) { h.Engines = nil; h.Orders = make([]order.Order, 7) }, 9, all(limit)},
		{"an engine with too many phases, behind one that is none", func(h *order.House) { broken(h); h.Engines = []screw.Screw{engine(), noScrew, tooLong} }, 9, all(arg)},
		{"an engine with too many phases, ahead of one that is none", func(h *order.House) { broken(h); h.Engines = []screw.Screw{tooLong, noScrew} }, 9, all(limit)},
		{"an engine with too many phases, and nothing else is right", func(h *order.House) { broken(h); h.Engines = []screw.Screw{engine(), tooLong} }, 9, all(limit)},
		{"no engines", func(h *order.House) { h.Engines = nil }, 9, all(arg)},
		{"an instrument that is none", func(h *order.House) { h.Instruments[2].Kind = 5 }, 9, all(arg)},
		{"a scale with too many lines", func(h *order.House) { h.Instruments[2].Scale = lines(11) }, 9, all(arg)},
		{"a scale that is none", func(h *order.House) { h.Instruments[2].Scale = nil }, 9, all(arg)},
		{"a scale that the engine cannot cut", func(h *order.House) { h.Engines[0].Ticks = 1 }, 9, all(arg)},
		{"an order that is none", func(h *order.House) { h.Orders[2].Wants = 0 }, 9, all(arg)},
		{"no such order", func(h *order.House) {}, 3, [7]api.Errno{ok, ok, rng, ok, ok, ok, ok}},
		{"no such order, below 0", func(h *order.House) {}, -1, [7]api.Errno{ok, ok, rng, ok, ok, ok, ok}},
		{"no such order, as there are none", func(h *order.House) { h.Orders = nil }, 0, [7]api.Errno{ok, ok, rng, ok, ok, none, ok}},
		{"all can be sent", func(h *order.House) { h.Orders[1].Wants = 1 }, 2, [7]api.Errno{ok, ok, ok, ok, ok, none, ok}},
	} {
		h := example()
		c.change(&h)
		r := callAll(h, c.number)
		if r.errors != c.want {
			t.Errorf("%s: %v, not %v", c.name, r.errors, c.want)
		}
		if !r.zeroWithErrors() {
			t.Errorf("%s: results with errors: %v", c.name, r)
		}
	}
}

// P1: no argument makes a call panic.
func TestNoArgumentPanics(t *testing.T) {
	numbers := []int{math.MinInt, math.MinInt + 1, -1, 0, 0, 0, 1, 1, 2, 3, 4, 5, 9, 10, 11, 20, 40, 60, 100, 101, 1000, 1001, 5000, 5001, math.MaxInt - 1, math.MaxInt}
	d := newDice(1)
	pick := func() int { return numbers[d.IntN(len(numbers))] }
	list := func() []int {
		var l []int
		for range d.IntN(13) * d.IntN(2) {
			l = append(l, pick())
		}
		return l
	}
	change := func(h *order.House) {
		switch d.IntN(9) {
		case 0:
			h.Engines = slices.Repeat(h.Engines, d.IntN(5))
		case 1:
			h.Engines[0] = screw.Screw{Step: pick(), Phases: []screw.Range{to(pick(), pick())}, Zones: []screw.Zone{{From: pick()}}, Ticks: pick()}
		case 2:
			h.Instruments = slices.Repeat(h.Instruments, d.IntN(5))
		case 3:
			h.Instruments[d.IntN(3)] = order.Instrument{Kind: pick(), Engine: pick(), Scale: list(), Ready: pick()}
		case 4:
			h.Instruments[d.IntN(3)].Scale = list()
		case 5:
			h.Orders = slices.Repeat(h.Orders, d.IntN(4))
		case 6:
			h.Orders[d.IntN(3)] = order.Order{Kind: pick(), Wants: pick(), From: pick(), To: pick(), Bound: pick(), Due: pick(), Worth: pick()}
		case 7:
			o := &h.Orders[d.IntN(3)]
			o.From, o.To, o.Wants = pick(), pick(), d.from(0, 6)
		}
	}
	for range 20000 {
		h := example()
		change(&h)
		if r := callAll(h, pick()); !r.zeroWithErrors() {
			t.Fatalf("%v: %v", h, r)
		}
		var plan [][]int
		for range len(h.Orders) + d.from(-1, 1)*d.IntN(2) {
			plan = append(plan, list())
		}
		if many := pick(); order.ProvePlan(h, plan, many) && sentBy(plan) < many {
			t.Fatalf("%v: %v is said to send %d", h, plan, many)
		}
		if orders := list(); order.ProveLack(h, orders, pick()) && order.CheckHouse(h) != api.OK {
			t.Fatalf("%v: %v is said to be a proof", h, orders)
		}
	}
}

// R3: a list without elements is as nil.
func TestEmptyIsNil(t *testing.T) {
	empty := func(h order.House) order.House {
		if len(h.Engines) == 0 {
			h.Engines = []screw.Screw{}
		}
		if len(h.Instruments) == 0 {
			h.Instruments = []order.Instrument{}
		}
		if len(h.Orders) == 0 {
			h.Orders = []order.Order{}
		}
		return h
	}
	noScale := kinds(0)
	noScale.Instruments[0].Scale = nil
	emptyScale := kinds(0)
	emptyScale.Instruments[0].Scale = []int{}
	for _, c := range [][2]order.House{
		{{}, empty(order.House{})},
		{kinds(), empty(kinds())},
		{kinds(0), empty(kinds(0))},
		{asked(kinds(), wants(0, 1, 1)), empty(asked(kinds(), wants(0, 1, 1)))},
		{noScale, emptyScale},
	} {
		if a, b := callAll(c[0], 0), callAll(c[1], 0); !a.same(b) {
			t.Errorf("%v: %v, %v", c[0], a, b)
		}
	}
	h := asked(kinds(0), wants(0, 1, 1))
	if !order.ProvePlan(h, [][]int{nil}, 0) || !order.ProvePlan(h, [][]int{{}}, 0) {
		t.Error("a plan that sends nothing is none")
	}
	if !order.ProvePlan(kinds(0), nil, 0) || !order.ProvePlan(kinds(0), [][]int{}, 0) {
		t.Error("a plan without orders is none")
	}
	if !order.ProveLack(h, nil, 1) || !order.ProveLack(h, []int{}, 1) {
		t.Error("no orders show nothing")
	}
}

func cloneHouse(h order.House) order.House {
	h.Engines, h.Instruments, h.Orders = slices.Clone(h.Engines), slices.Clone(h.Instruments), slices.Clone(h.Orders)
	for i := range h.Instruments {
		h.Instruments[i].Scale = slices.Clone(h.Instruments[i].Scale)
	}
	return h
}

func sameHouse(a, b order.House) bool {
	sameEngine := func(a, b screw.Screw) bool {
		return a.Step == b.Step && a.Ticks == b.Ticks && slices.Equal(a.Phases, b.Phases) && slices.Equal(a.Zones, b.Zones)
	}
	sameInstrument := func(a, b order.Instrument) bool {
		return a.Kind == b.Kind && a.Engine == b.Engine && a.Ready == b.Ready && slices.Equal(a.Scale, b.Scale)
	}
	return slices.EqualFunc(a.Engines, b.Engines, sameEngine) &&
		slices.EqualFunc(a.Instruments, b.Instruments, sameInstrument) && slices.Equal(a.Orders, b.Orders)
}

// R4, and that a call is again as it was: arguments stay as they are, and what is
// done with results changes nothing.
func TestMemory(t *testing.T) {
	h := example()
	plan, orders := [][]int{{1}, {0}, {2}}, []int{0, 1}
	for range 3 {
		first, again := callAll(h, 0), callAll(example(), 0)
		if !first.same(again) || again.errors != [7]api.Errno{} {
			t.Errorf("twice the same: %v, %v", first, again)
		}
		if !order.ProvePlan(h, plan, 3) || !order.ProveLack(h, orders, 3) {
			t.Error("what was proved is not any more")
		}
		for _, numbers := range append(first.plan, first.bounds, first.fit, first.lack, first.best) {
			full := numbers[:cap(numbers)]
			for n := range full {
				full[n] = 7
			}
		}
		if !sameHouse(h, example()) {
			t.Fatalf("arguments were written to: %v", h)
		}
	}
	if !slices.EqualFunc(plan, [][]int{{1}, {0}, {2}}, slices.Equal[[]int]) || !slices.Equal(orders, []int{0, 1}) {
		t.Errorf("arguments were written to: %v, %v", plan, orders)
	}
}

// R4: the lists of a plan share no memory with each other.
func TestListsOfPlansAreApart(t *testing.T) {
	h := asked(kinds(0, 0, 1, 1, 2), wants(0, 2, 1), wants(1, 2, 1), wants(2, 2, 1))
	plan, e := order.Serve(h)
	if e != api.OK || !isPlan(h, plan) {
		t.Fatalf("%v, %v", plan, e)
	}
	for n := range plan {
		plan[n] = append(plan[n], -1)
		full := plan[n][:cap(plan[n])]
		for i := range full {
			full[i] = -1 - n
		}
	}
	for n, list := range plan {
		if slices.ContainsFunc(list, func(number int) bool { return number != -1-n }) {
			t.Errorf("the list %d is %v", n, list)
		}
	}
}
