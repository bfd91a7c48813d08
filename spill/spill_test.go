package spill_test

import (
	"math"
	"slices"
	"testing"

	"meniscus/api"
	"meniscus/spill"
)

func to(lo, hi int) spill.Range { return spill.Range{Lo: lo, Hi: hi} }

func ranges(list ...spill.Range) []spill.Range { return list }

func room(first, vapour spill.Range) spill.Room { return spill.Room{First: first, Vapour: vapour} }

func move(day, from, other, lo, hi int) spill.Move {
	return spill.Move{Day: day, From: from, To: other, Grams: to(lo, hi)}
}

func weighing(room, day, lo, hi int) spill.Weighing {
	return spill.Weighing{Room: room, Day: day, Grams: to(lo, hi)}
}

func numbers(list ...int) []int { return list }

const outside = spill.Outside

// one is a works of one room without vapour.
func one(first spill.Range, days int, weighings ...spill.Weighing) spill.Works {
	return spill.Works{Rooms: []spill.Room{room(first, to(0, 0))}, Days: days, Weighings: weighings}
}

// two is a works of two rooms on one day, of which the first one has 50 grams, and
// the other one none.
func two(weighings []spill.Weighing, moves ...spill.Move) spill.Works {
	return spill.Works{Rooms: []spill.Room{room(to(50, 50), to(0, 0)), {}}, Days: 1, Moves: moves, Weighings: weighings}
}

// example is the chapter's, with these weighings.
func example(weighings ...spill.Weighing) spill.Works {
	return spill.Works{
		Rooms:     []spill.Room{room(to(100, 100), to(1, 2)), room(to(0, 5), to(0, 1))},
		Days:      3,
		Moves:     []spill.Move{move(0, 0, 1, 40, 45), move(1, 1, outside, 20, 20), move(2, 0, 1, 0, 10)},
		Weighings: weighings,
	}
}

func exampleWeighing() spill.Weighing { return weighing(1, 1, 22, 24) }

func exampleTruth() spill.Truth {
	return spill.Truth{Firsts: numbers(100, 3), Vapours: [][]int{{1, 1, 2}, {0, 1, 0}}, Grams: numbers(42, 20, 5)}
}

func exampleBook() spill.Book {
	return spill.Book{Firsts: numbers(100, 2), Grams: numbers(42, 20, 5)}
}

// greatest has all as great as it may be.
func greatest() spill.Works {
	return spill.Works{
		Rooms:     slices.Repeat([]spill.Room{room(to(2000, 2000), to(50, 50))}, 3),
		Days:      6,
		Moves:     slices.Repeat([]spill.Move{move(0, outside, 2, 2000, 2000)}, 12),
		Weighings: slices.Repeat([]spill.Weighing{weighing(1, 5, 0, 2000)}, 8),
	}
}

// P10.1: each limit, and one beyond it.
func TestCheckWorks(t *testing.T) {
	const ok, arg, limit = api.OK, api.ErrArg, api.ErrLimit
	for _, x := range []struct {
		name   string
		change func(w *spill.Works)
		want   api.Errno
	}{
		{"the example", func(w *spill.Works) {}, ok},
		{"all as great as it may be", func(w *spill.Works) { *w = greatest() }, ok},
		{"no rooms", func(w *spill.Works) { *w = spill.Works{Days: 3} }, arg},
		{"one room", func(w *spill.Works) { *w = one(to(0, 0), 1) }, ok},
		{"three rooms", func(w *spill.Works) { w.Rooms = append(w.Rooms, w.Rooms[0]) }, ok},
		{"four rooms", func(w *spill.Works) { w.Rooms = slices.Repeat(w.Rooms, 2) }, limit},
		{"twelve moves", func(w *spill.Works) { w.Moves = slices.Repeat(w.Moves, 4) }, ok},
		{"thirteen moves", func(w *spill.Works) { w.Moves = append(slices.Repeat(w.Moves, 4), w.Moves[0]) }, limit},
		{"no moves", func(w *spill.Works) { w.Moves = nil }, ok},
		{"eight weighings", func(w *spill.Works) { w.Weighings = slices.Repeat(w.Weighings, 8) }, ok},
		{"nine weighings", func(w *spill.Works) { w.Weighings = slices.Repeat(w.Weighings, 9) }, limit},
		{"no weighings", func(w *spill.Works) { w.Weighings = nil }, ok},
		{"four rooms, and nothing right", func(w *spill.Works) {
			*w = spill.Works{Rooms: slices.Repeat([]spill.Room{room(to(1, 0), to(1, 0))}, 4)}
		}, limit},
		{"thirteen moves, and no rooms", func(w *spill.Works) { *w = spill.Works{Moves: make([]spill.Move, 13)} }, limit},
		{"nine weighings, and no rooms", func(w *spill.Works) { *w = spill.Works{Weighings: make([]spill.Weighing, 9)} }, limit},
		{"one day", func(w *spill.Works) { w.Days, w.Moves, w.Weighings = 1, w.Moves[:1], nil }, ok},
		{"no days", func(w *spill.Works) { w.Days, w.Moves, w.Weighings = 0, nil, nil }, arg},
		{"days below 0", func(w *spill.Works) { w.Days = math.MinInt }, arg},
		{"six days", func(w *spill.Works) { w.Days = 6 }, ok},
		{"seven days", func(w *spill.Works) { w.Days = 7 }, arg},
		{"many days", func(w *spill.Works) { w.Days = math.MaxInt }, arg},
		{"the greatest first", func(w *spill.Works) { w.Rooms[1].First = to(2000, 2000) }, ok},
		{"one beyond", func(w *spill.Works) { w.Rooms[1].First = to(0, 2001) }, arg},
		{"a first below 0", func(w *spill.Works) { w.Rooms[1].First = to(-1, 5) }, arg},
		{"a first that is no range", func(w *spill.Works) { w.Rooms[1].First = to(5, 4) }, arg},
		{"the greatest vapour", func(w *spill.Works) { w.Rooms[1].Vapour = to(0, 50) }, ok},
		{"one beyond", func(w *spill.Works) { w.Rooms[1].Vapour = to(0, 51) }, arg},
		{"vapour below 0", func(w *spill.Works) { w.Rooms[0].Vapour = to(-1, 1) }, arg},
		{"vapour that is no range", func(w *spill.Works) { w.Rooms[0].Vapour = to(2, 1) }, arg},
		{"far numbers", func(w *spill.Works) { w.Rooms[0].Vapour = to(math.MinInt, math.MaxInt) }, arg},
		{"a move on the last day", func(w *spill.Works) { w.Moves[0].Day = 2 }, ok},
		{"one behind it", func(w *spill.Works) { w.Moves[0].Day = 3 }, arg},
		{"one ahead of all days", func(w *spill.Works) { w.Moves[2].Day = -1 }, arg},
		{"a move from the last room", func(w *spill.Works) { w.Moves[0] = move(0, 1, 0, 0, 1) }, ok},
		{"one from behind it", func(w *spill.Works) { w.Moves[0].From = 2 }, arg},
		{"one to behind it", func(w *spill.Works) { w.Moves[0].To = 2 }, arg},
		{"a move from outside", func(w *spill.Works) { w.Moves[0].From = outside }, ok},
		{"one to outside", func(w *spill.Works) { w.Moves[0].To = outside }, ok},
		{"one from below outside", func(w *spill.Works) { w.Moves[0].From = -2 }, arg},
		{"one to below outside", func(w *spill.Works) { w.Moves[0].To = -2 }, arg},
		{"one from outside to outside", func(w *spill.Works) { w.Moves[1].From = outside }, arg},
		{"one from a room to itself", func(w *spill.Works) { w.Moves[0].To = 0 }, arg},
		{"the most grams of a move", func(w *spill.Works) { w.Moves[2].Grams = to(0, 2000) }, ok},
		{"one more", func(w *spill.Works) { w.Moves[2].Grams = to(2000, 2001) }, arg},
		{"grams of a move below 0", func(w *spill.Works) { w.Moves[2].Grams = to(-1, 0) }, arg},
		{"grams of a move that are no range", func(w *spill.Works) { w.Moves[2].Grams = to(1, 0) }, arg},
		{"a weighing on the last day", func(w *spill.Works) { w.Weighings[0].Day = 2 }, ok},
		{"one behind it", func(w *spill.Works) { w.Weighings[0].Day = 3 }, arg},
		{"one ahead of all days", func(w *spill.Works) { w.Weighings[0].Day = -1 }, arg},
		{"a weighing of a room that there is not", func(w *spill.Works) { w.Weighings[0].Room = 2 }, arg},
		{"one of outside", func(w *spill.Works) { w.Weighings[0].Room = outside }, arg},
		{"the most grams of a weighing", func(w *spill.Works) { w.Weighings[0].Grams = to(0, 2000) }, ok},
		{"one more", func(w *spill.Works) { w.Weighings[0].Grams = to(0, 2001) }, arg},
		{"grams of a weighing below 0", func(w *spill.Works) { w.Weighings[0].Grams = to(-1, 24) }, arg},
		{"grams of a weighing that are no range", func(w *spill.Works) { w.Weighings[0].Grams = to(24, 22) }, arg},
		{"the weighings do not agree", func(w *spill.Works) { w.Weighings[0].Grams = to(0, 0) }, ok},
	} {
		w := example(exampleWeighing())
		x.change(&w)
		if e := spill.CheckWorks(w); e != x.want {
			t.Errorf("%s: %v, not %v", x.name, e, x.want)
		}
	}
}

// P10.1: the chapter's example, and edges.
func TestPlay(t *testing.T) {
	passing := spill.Works{
		Rooms: []spill.Room{{}, {}},
		Days:  1,
		Moves: []spill.Move{move(0, 0, 1, 0, 9), move(0, outside, 0, 0, 9), move(0, 1, 0, 0, 9)},
	}
	still := func(grams ...int) spill.Truth {
		return spill.Truth{Firsts: numbers(0, 0), Vapours: [][]int{{0}, {0}}, Grams: grams}
	}
	for _, x := range []struct {
		name   string
		w      spill.Works
		t      spill.Truth
		stocks [][]int
		can    bool
	}{
		{"the example", example(exampleWeighing()), exampleTruth(), [][]int{{57, 56, 49}, {45, 24, 29}}, true},
		{"whatever was weighed", example(weighing(1, 1, 0, 0)), exampleTruth(), [][]int{{57, 56, 49}, {45, 24, 29}}, true},
		{"nothing", one(to(0, 0), 2), spill.Truth{Firsts: numbers(0), Vapours: [][]int{{0, 0}}}, [][]int{{0, 0}}, true},
		{"what comes goes on, on the same day", passing, still(4, 4, 0), [][]int{{0}, {4}}, true},
		{"one more than comes", passing, still(5, 4, 0), [][]int{{-1}, {5}}, false},
		{"there and back", passing, still(7, 0, 7), [][]int{{0}, {0}}, true},
		{"one more back than there", passing, still(7, 0, 8), [][]int{{1}, {-1}}, false},
		{
			"below 0 on one day only", spill.Works{Rooms: []spill.Room{room(to(1, 1), to(1, 1))}, Days: 3, Moves: []spill.Move{move(2, outside, 0, 9, 9)}},
			spill.Truth{Firsts: numbers(1), Vapours: [][]int{{1, 1, 1}}, Grams: numbers(9)}, [][]int{{0, -1, 7}}, false,
		},
		{
			"all as great as it may be", greatest(),
			spill.Truth{Firsts: numbers(2000, 2000, 2000), Vapours: slices.Repeat([][]int{{50, 50, 50, 50, 50, 50}}, 3), Grams: slices.Repeat(numbers(2000), 12)},
			[][]int{{1950, 1900, 1850, 1800, 1750, 1700}, {1950, 1900, 1850, 1800, 1750, 1700}, {25950, 25900, 25850, 25800, 25750, 25700}}, true,
		},
	} {
		stocks, can, e := spill.Play(x.w, x.t)
		if !sameNumbers(stocks, x.stocks) || can != x.can || e != api.OK {
			t.Errorf("%s: %v, %v, %v, not %v, %v", x.name, stocks, can, e, x.stocks, x.can)
		}
	}
}

// P10.1: what just is no truth.
func TestWhatIsNoTruth(t *testing.T) {
	for _, x := range []struct {
		name   string
		change func(x *spill.Truth)
		want   api.Errno
	}{
		{"the example", func(x *spill.Truth) {}, api.OK},
		{"all at the least", func(x *spill.Truth) {
			*x = spill.Truth{Firsts: numbers(100, 0), Vapours: [][]int{{1, 1, 1}, {0, 0, 0}}, Grams: numbers(40, 20, 0)}
		}, api.OK},
		{"all at the most", func(x *spill.Truth) {
			*x = spill.Truth{Firsts: numbers(100, 5), Vapours: [][]int{{2, 2, 2}, {1, 1, 1}}, Grams: numbers(45, 20, 10)}
		}, api.OK},
		{"nothing", func(x *spill.Truth) { *x = spill.Truth{} }, api.ErrRange},
		{"a first is missing", func(x *spill.Truth) { x.Firsts = x.Firsts[:1] }, api.ErrRange},
		{"a first too many", func(x *spill.Truth) { x.Firsts = append(x.Firsts, 3) }, api.ErrRange},
		{"a first below its range", func(x *spill.Truth) { x.Firsts[0] = 99 }, api.ErrRange},
		{"a first above its range", func(x *spill.Truth) { x.Firsts[1] = 6 }, api.ErrRange},
		{"a room's vapour is missing", func(x *spill.Truth) { x.Vapours = x.Vapours[:1] }, api.ErrRange},
		{"a room's vapour too many", func(x *spill.Truth) { x.Vapours = append(x.Vapours, numbers(0, 0, 0)) }, api.ErrRange},
		{"a day's vapour is missing", func(x *spill.Truth) { x.Vapours[1] = x.Vapours[1][:2] }, api.ErrRange},
		{"a day's vapour too many", func(x *spill.Truth) { x.Vapours[0] = append(x.Vapours[0], 1) }, api.ErrRange},
		{"no day's vapour", func(x *spill.Truth) { x.Vapours[0] = nil }, api.ErrRange},
		{"vapour below its range", func(x *spill.Truth) { x.Vapours[0][2] = 0 }, api.ErrRange},
		{"vapour above its range", func(x *spill.Truth) { x.Vapours[1][0] = 2 }, api.ErrRange},
		{"a move is missing", func(x *spill.Truth) { x.Grams = x.Grams[:2] }, api.ErrRange},
		{"a move too many", func(x *spill.Truth) { x.Grams = append(x.Grams, 0) }, api.ErrRange},
		{"a move below its range", func(x *spill.Truth) { x.Grams[0] = 39 }, api.ErrRange},
		{"a move above its range", func(x *spill.Truth) { x.Grams[2] = 11 }, api.ErrRange},
		{"far numbers", func(x *spill.Truth) { x.Grams = numbers(math.MinInt, math.MaxInt, 0) }, api.ErrRange},
	} {
		truth := exampleTruth()
		x.change(&truth)
		stocks, can, e := spill.Play(example(), truth)
		if e != x.want || e != api.OK && (stocks != nil || can) {
			t.Errorf("%s: %v, %v, %v, not %v", x.name, stocks, can, e, x.want)
		}
		if is := spill.ProveTruth(example(), truth); is != (x.want == api.OK) {
			t.Errorf("%s: it is proved: %v", x.name, is)
		}
	}
}

// P10.1
func TestProveTruth(t *testing.T) {
	many := example(slices.Repeat([]spill.Weighing{exampleWeighing()}, 9)...)
	for _, x := range []struct {
		name string
		w    spill.Works
		want bool
	}{
		{"the example", example(exampleWeighing()), true},
		{"no weighings", example(), true},
		{"weighed just so", example(weighing(1, 1, 24, 24)), true},
		{"weighed one less", example(weighing(1, 1, 0, 23)), false},
		{"weighed one more", example(weighing(1, 1, 25, 2000)), false},
		{"weighed as it was the day before", example(weighing(1, 1, 45, 45)), false},
		{"weighed so the day before", example(weighing(1, 0, 45, 45)), true},
		{"several", example(weighing(0, 0, 57, 57), weighing(0, 1, 56, 56), weighing(1, 2, 29, 29)), true},
		{"the last of several does not agree", example(weighing(0, 0, 57, 57), weighing(0, 1, 56, 56), weighing(1, 2, 30, 30)), false},
		{"as many as there may be", example(many.Weighings[:8]...), true},
		{"one more", many, false},
		{"a weighing that is none", example(weighing(2, 1, 22, 24)), false},
	} {
		if is := spill.ProveTruth(x.w, exampleTruth()); is != x.want {
			t.Errorf("%s: %v", x.name, is)
		}
	}
	below := spill.Works{Rooms: []spill.Room{room(to(1, 1), to(2, 2))}, Days: 1}
	if spill.ProveTruth(below, spill.Truth{Firsts: numbers(1), Vapours: [][]int{{2}}}) {
		t.Error("a truth is proved that cannot be")
	}
	if spill.ProveTruth(spill.Works{}, spill.Truth{}) {
		t.Error("nothing is a truth of a works that is none")
	}
}

// P10.2: the chapter's example (and the document's example 10), and others that
// were worked out by hand.
func TestStocks(t *testing.T) {
	weighings := func(list ...spill.Weighing) []spill.Weighing { return list }
	vapour := func(first, vapour spill.Range, days int) spill.Works {
		return spill.Works{Rooms: []spill.Room{room(first, vapour)}, Days: days}
	}
	later := spill.Works{Rooms: []spill.Room{room(to(0, 100), to(0, 1))}, Days: 3, Weighings: weighings(weighing(0, 2, 40, 50))}
	passing := spill.Works{Rooms: []spill.Room{{}, {}}, Days: 1, Moves: []spill.Move{move(0, 0, 1, 10, 10), move(0, outside, 0, 0, 30)}}
	round := two(nil, move(0, 0, 1, 30, 60), move(0, 1, 0, 10, 20))
	for _, x := range []struct {
		name string
		w    spill.Works
		want [][]spill.Range
		e    api.Errno
	}{
		{"the example", example(exampleWeighing()), [][]spill.Range{{to(53, 59), to(51, 58), to(39, 57)}, {to(42, 45), to(22, 24), to(21, 34)}}, api.OK},
		{"nothing was weighed", example(), [][]spill.Range{{to(53, 59), to(51, 58), to(39, 57)}, {to(39, 50), to(18, 30), to(17, 40)}}, api.OK},
		{"the weighings do not agree", example(weighing(1, 1, 35, 40)), nil, api.ErrFail},
		{"a room alone", one(to(5, 7), 2), [][]spill.Range{{to(5, 7), to(5, 7)}}, api.OK},
		{"vapour", vapour(to(5, 7), to(1, 2), 2), [][]spill.Range{{to(3, 6), to(1, 5)}}, api.OK},
		{"no more vapour than there is", vapour(to(2, 2), to(0, 3), 2), [][]spill.Range{{to(0, 2), to(0, 2)}}, api.OK},
		{"so much that there can be vapour", vapour(to(0, 3), to(1, 1), 2), [][]spill.Range{{to(1, 2), to(0, 1)}}, api.OK},
		{"all of it", vapour(to(0, 2), to(1, 1), 2), [][]spill.Range{{to(1, 1), to(0, 0)}}, api.OK},
		{"more vapour than there can be", vapour(to(0, 1), to(1, 1), 2), nil, api.ErrFail},
		{"what is left tells what was", later, [][]spill.Range{{to(40, 52), to(40, 51), to(40, 50)}}, api.OK},
		{"what comes goes on, on the same day", passing, [][]spill.Range{{to(0, 20)}, {to(10, 10)}}, api.OK},
		{"there and back", round, [][]spill.Range{{to(0, 40)}, {to(10, 50)}}, api.OK},
		{"one room tells of the other one", two(weighings(weighing(1, 0, 20, 23)), move(0, 0, 1, 0, 50)), [][]spill.Range{{to(27, 30)}, {to(20, 23)}}, api.OK},
		{"not of what else was moved", two(weighings(weighing(1, 0, 20, 20)), move(0, 0, 1, 0, 50), move(0, outside, 1, 0, 5)), [][]spill.Range{{to(30, 35)}, {to(20, 20)}}, api.OK},
		{"weighed twice", one(to(0, 99), 1, weighing(0, 0, 10, 20), weighing(0, 0, 15, 30)), [][]spill.Range{{to(15, 20)}}, api.OK},
		{"weighed twice, and both just meet", one(to(0, 99), 1, weighing(0, 0, 20, 30), weighing(0, 0, 10, 20)), [][]spill.Range{{to(20, 20)}}, api.OK},
		{"weighed twice, and both do not meet", one(to(0, 99), 1, weighing(0, 0, 21, 30), weighing(0, 0, 10, 20)), nil, api.ErrFail},
		{"weighed twice, and both do not meet, though one is of 0", one(to(0, 99), 1, weighing(0, 0, 0, 0), weighing(0, 0, 1, 1)), nil, api.ErrFail},
		{"a move that there was not enough for", two(nil, move(0, 0, 1, 51, 60)), nil, api.ErrFail},
		{"a move that there was just enough for", two(nil, move(0, 0, 1, 50, 60)), [][]spill.Range{{to(0, 0)}, {to(50, 50)}}, api.OK},
		{"as little as can be", one(to(0, 0), 1, weighing(0, 0, 0, 0)), [][]spill.Range{{to(0, 0)}}, api.OK},
		{"as great as all may be", greatest(), [][]spill.Range{
			{to(1950, 1950), to(1900, 1900), to(1850, 1850), to(1800, 1800), to(1750, 1750), to(1700, 1700)},
			{to(1950, 1950), to(1900, 1900), to(1850, 1850), to(1800, 1800), to(1750, 1750), to(1700, 1700)},
			{to(25950, 25950), to(25900, 25900), to(25850, 25850), to(25800, 25800), to(25750, 25750), to(25700, 25700)},
		}, api.OK},
	} {
		stocks, e := spill.Stocks(x.w)
		if !sameRanges(stocks, x.want) || e != x.e {
			t.Errorf("%s: %v, %v, not %v, %v", x.name, stocks, e, x.want, x.e)
		}
	}
}

// P10.2: ranges that are as wide as can be.
func TestWidestStocks(t *testing.T) {
	w := greatest()
	for number := range w.Rooms {
		w.Rooms[number].First.Lo, w.Rooms[number].Vapour.Lo = 0, 0
	}
	for number := range w.Moves {
		w.Moves[number].Grams.Lo = 0
	}
	want := slices.Repeat(ranges(to(0, 26000)), 6)
	if stocks := mustStocks(t, w); !slices.Equal(stocks[2], want) {
		t.Errorf("%v, not %v", stocks[2], want)
	}
}

// P10.3: the chapter's example, and edges.
func TestMissing(t *testing.T) {
	later := spill.Book{Firsts: numbers(0), Grams: numbers(10, 4)}
	in := one(to(0, 0), 3)
	in.Moves = []spill.Move{move(1, outside, 0, 10, 12), move(2, 0, outside, 3, 4)}
	for _, x := range []struct {
		name      string
		w         spill.Works
		b         spill.Book
		room, day int
		want      spill.Range
		e         api.Errno
	}{
		{"the example", example(exampleWeighing()), exampleBook(), 0, 1, to(0, 7), api.OK},
		{"the example, the other room", example(exampleWeighing()), exampleBook(), 1, 1, to(0, 2), api.OK},
		{"the example, the first day", example(exampleWeighing()), exampleBook(), 0, 0, to(-1, 5), api.OK},
		{"the example, the last day", example(exampleWeighing()), exampleBook(), 1, 2, to(-5, 8), api.OK},
		{"ahead of all moves", in, later, 0, 0, to(0, 0), api.OK},
		{"on the day of a move", in, later, 0, 1, to(-2, 0), api.OK},
		{"behind all of them", in, later, 0, 2, to(-3, 0), api.OK},
		{"a book that says less than nothing", two(nil), spill.Book{Firsts: numbers(0, 0)}, 0, 0, to(-50, -50), api.OK},
		{"a book of other firsts", two(nil), spill.Book{Firsts: numbers(2000, 0)}, 0, 0, to(1950, 1950), api.OK},
		{"a book that is below 0", two(nil, move(0, 0, 1, 5, 5)), spill.Book{Firsts: numbers(0, 0), Grams: numbers(2000)}, 0, 0, to(-2045, -2045), api.OK},
		{"the greatest book", greatest(), spill.Book{Firsts: numbers(2000, 2000, 2000), Grams: slices.Repeat(numbers(2000), 12)}, 2, 5, to(300, 300), api.OK},
		{"the weighings do not agree", example(weighing(1, 1, 0, 0)), exampleBook(), 0, 1, to(0, 0), api.ErrFail},
	} {
		if r, e := spill.Missing(x.w, x.b, x.room, x.day); r != x.want || e != x.e {
			t.Errorf("%s: %v, %v, not %v, %v", x.name, r, e, x.want, x.e)
		}
	}
}

// P10.3: the chapter's examples, and edges.
func TestLost(t *testing.T) {
	three := spill.Works{Rooms: slices.Repeat([]spill.Room{room(to(10, 10), to(0, 1))}, 3), Days: 3}
	for _, x := range []struct {
		name      string
		w         spill.Works
		b         spill.Book
		room, day int
		e         api.Errno
	}{
		{"the example", example(exampleWeighing()), exampleBook(), 0, 0, api.ErrNone},
		{"the example, by another book", example(exampleWeighing()), spill.Book{Firsts: numbers(100, 5), Grams: numbers(45, 20, 0)}, 1, 0, api.OK},
		{"surely a day later only", example(exampleWeighing()), spill.Book{Firsts: numbers(100, 0), Grams: numbers(45, 20, 0)}, 1, 1, api.OK},
		{"surely by one", example(exampleWeighing()), spill.Book{Firsts: numbers(100, 1), Grams: numbers(45, 20, 0)}, 1, 0, api.OK},
		{"nothing, by a right book", three, spill.Book{Firsts: numbers(10, 10, 10)}, 0, 0, api.ErrNone},
		{"less than nothing", three, spill.Book{Firsts: numbers(0, 0, 0)}, 0, 0, api.ErrNone},
		{"the first of two rooms", three, spill.Book{Firsts: numbers(10, 11, 12)}, 1, 0, api.OK},
		{"the last room", three, spill.Book{Firsts: numbers(10, 9, 12)}, 2, 0, api.OK},
		{"the first day, though a room ahead of it later", spill.Works{Rooms: []spill.Room{room(to(9, 9), to(1, 1)), room(to(5, 5), to(0, 0))}, Days: 2}, spill.Book{Firsts: numbers(8, 6)}, 1, 0, api.OK},
		{"on the last day", spill.Works{Rooms: []spill.Room{room(to(9, 9), to(1, 1))}, Days: 6}, spill.Book{Firsts: numbers(4)}, 0, 5, api.OK},
		{"a day behind the last", spill.Works{Rooms: []spill.Room{room(to(9, 9), to(1, 1))}, Days: 5}, spill.Book{Firsts: numbers(4)}, 0, 0, api.ErrNone},
		{"the weighings do not agree", example(weighing(1, 1, 0, 0)), exampleBook(), 0, 0, api.ErrFail},
	} {
		if room, day, e := spill.Lost(x.w, x.b); room != x.room || day != x.day || e != x.e {
			t.Errorf("%s: %d, %d, %v, not %d, %d, %v", x.name, room, day, e, x.room, x.day, x.e)
		}
	}
}

// P10.4: the chapter's example, and others that were worked out by hand.
func TestFewestAndBlame(t *testing.T) {
	wide := func(weighings ...spill.Weighing) spill.Works { return one(to(0, 99), 2, weighings...) }
	noTruth := one(to(0, 0), 1, weighing(0, 0, 0, 0))
	noTruth.Rooms[0].Vapour = to(1, 1)
	noTruthAtAll := noTruth
	noTruthAtAll.Weighings = nil
	const none = api.ErrNone
	for _, x := range []struct {
		name   string
		w      spill.Works
		fewest []int
		e      api.Errno
		alone  int
		f      api.Errno
	}{
		{"the example", example(weighing(1, 1, 35, 40)), numbers(0), api.OK, 0, api.OK},
		{"all agree", example(exampleWeighing()), nil, api.OK, 0, none},
		{"no weighings", example(), nil, api.OK, 0, none},
		{"either of two", wide(weighing(0, 0, 3, 4), weighing(0, 1, 5, 6)), numbers(0), api.OK, 0, none},
		{"only the second one", wide(weighing(0, 0, 3, 4), weighing(0, 1, 5, 6), weighing(0, 0, 4, 4)), numbers(1), api.OK, 1, api.OK},
		{"only the last one", wide(weighing(0, 1, 6, 6), weighing(0, 0, 5, 7), weighing(0, 0, 4, 4)), numbers(2), api.OK, 2, api.OK},
		{"only the first one, as nothing can be so", wide(weighing(0, 1, 100, 200), weighing(0, 0, 5, 7)), numbers(0), api.OK, 0, api.OK},
		{"either of two, and others besides", wide(weighing(0, 0, 0, 9), weighing(0, 1, 3, 4), weighing(0, 0, 5, 6), weighing(0, 0, 2, 8)), numbers(1), api.OK, 0, none},
		{"two of four", wide(weighing(0, 0, 1, 1), weighing(0, 1, 5, 5), weighing(0, 0, 2, 2), weighing(0, 1, 5, 5)), numbers(0, 2), api.OK, 0, none},
		{"the least of several lists", wide(weighing(0, 0, 1, 1), weighing(0, 0, 2, 2), weighing(0, 0, 2, 2), weighing(0, 1, 1, 1)), numbers(0, 3), api.OK, 0, none},
		{"all but one", wide(weighing(0, 0, 1, 1), weighing(0, 0, 2, 2), weighing(0, 0, 3, 3)), numbers(0, 1), api.OK, 0, none},
		{"all of them", wide(slices.Repeat([]spill.Weighing{weighing(0, 0, 100, 100)}, 8)...), numbers(0, 1, 2, 3, 4, 5, 6, 7), api.OK, 0, none},
		{"no truth can be", noTruth, nil, api.ErrFail, 0, none},
		{"no truth can be, and nothing was weighed", noTruthAtAll, nil, api.ErrFail, 0, none},
		{"a weighing too much in another room", two([]spill.Weighing{weighing(1, 0, 20, 20), weighing(0, 0, 31, 31), weighing(1, 0, 20, 21)}, move(0, 0, 1, 0, 50)), numbers(1), api.OK, 1, api.OK},
	} {
		fewest, e := spill.Fewest(x.w)
		if !slices.Equal(fewest, x.fewest) || e != x.e {
			t.Errorf("Fewest of %s: %v, %v, not %v, %v", x.name, fewest, e, x.fewest, x.e)
		}
		alone, f := spill.Blame(x.w)
		if alone != x.alone || f != x.f {
			t.Errorf("Blame of %s: %d, %v, not %d, %v", x.name, alone, f, x.alone, x.f)
		}
	}
}

// exampleTeam is the chapter's.
func exampleTeam() spill.Team {
	return spill.Team{Rates: ranges(to(3, 5), to(8, 10)), Hours: numbers(4, 3), Limit: 30, Most: 5}
}

// P10.5: each limit, and one beyond it.
func TestCheckTeam(t *testing.T) {
	const ok, arg, limit = api.OK, api.ErrArg, api.ErrLimit
	four := slices.Repeat(ranges(to(3, 5)), 4)
	for _, x := range []struct {
		name   string
		change func(team *spill.Team)
		want   api.Errno
	}{
		{"the example", func(team *spill.Team) {}, ok},
		{"one room", func(team *spill.Team) { team.Rates, team.Hours = team.Rates[:1], team.Hours[:1] }, ok},
		{"no rooms", func(team *spill.Team) { team.Rates, team.Hours = nil, nil }, arg},
		{"no rates", func(team *spill.Team) { team.Rates = nil }, arg},
		{"no hours", func(team *spill.Team) { team.Hours = nil }, arg},
		{"three rooms", func(team *spill.Team) { team.Rates, team.Hours = four[:3], numbers(1, 2, 3) }, ok},
		{"four rooms", func(team *spill.Team) { team.Rates, team.Hours = four, numbers(1, 2, 3, 4) }, limit},
		{"four rates, and nothing right", func(team *spill.Team) {
			*team = spill.Team{Rates: slices.Repeat(ranges(to(1, 0)), 4), Limit: -1, Most: -1}
		}, limit},
		{"a room's hours are missing", func(team *spill.Team) { team.Hours = team.Hours[:1] }, arg},
		{"a room's hours too many", func(team *spill.Team) { team.Hours = numbers(1, 2, 3, 4) }, arg},
		{"the greatest rate", func(team *spill.Team) { team.Rates[1] = to(0, 100) }, ok},
		{"one more", func(team *spill.Team) { team.Rates[1] = to(0, 101) }, arg},
		{"a rate below 0", func(team *spill.Team) { team.Rates[1] = to(-1, 5) }, arg},
		{"a rate that is no range", func(team *spill.Team) { team.Rates[1] = to(5, 4) }, arg},
		{"the most hours", func(team *spill.Team) { team.Hours[0] = 8 }, ok},
		{"one more", func(team *spill.Team) { team.Hours[0] = 9 }, arg},
		{"hours below 0", func(team *spill.Team) { team.Hours[1] = -1 }, arg},
		{"nothing to do", func(team *spill.Team) { team.Hours = numbers(0, 0) }, ok},
		{"the greatest Limit", func(team *spill.Team) { team.Limit = 1000 }, ok},
		{"one more", func(team *spill.Team) { team.Limit = 1001 }, arg},
		{"no Limit", func(team *spill.Team) { team.Limit = 0 }, ok},
		{"a Limit below 0", func(team *spill.Team) { team.Limit = -1 }, arg},
		{"the greatest Most", func(team *spill.Team) { team.Most = 8 }, ok},
		{"one more", func(team *spill.Team) { team.Most = 9 }, arg},
		{"a Most of 0", func(team *spill.Team) { team.Most = 0 }, ok},
		{"a Most below 0", func(team *spill.Team) { team.Most = -1 }, arg},
		{"far numbers", func(team *spill.Team) { team.Limit, team.Most = math.MinInt, math.MaxInt }, arg},
	} {
		team := exampleTeam()
		x.change(&team)
		if e := spill.CheckTeam(team); e != x.want {
			t.Errorf("%s: %v, not %v", x.name, e, x.want)
		}
	}
}

// P10.5: the chapter's example, and others that were worked out by hand.
func TestRoster(t *testing.T) {
	alike := func(rate, limit, most int, hours ...int) spill.Team {
		return spill.Team{Rates: slices.Repeat(ranges(to(0, rate)), len(hours)), Hours: hours, Limit: limit, Most: most}
	}
	for _, x := range []struct {
		name string
		team spill.Team
		many int
		e    api.Errno
	}{
		{"the example", exampleTeam(), 2, api.OK},
		{"nothing to do", alike(5, 0, 0, 0, 0), 0, api.OK},
		{"one hour", alike(5, 5, 1, 1), 1, api.OK},
		{"one hour of too much", alike(5, 4, 1, 1), 0, api.ErrBound},
		{"nobody works", alike(0, 1000, 0, 1), 0, api.ErrBound},
		{"nothing to breathe", alike(0, 0, 8, 8), 1, api.OK},
		{"six apprentices", alike(1, 1000, 1, 6), 6, api.OK},
		{"seven", alike(1, 1000, 1, 7), 0, api.ErrBound},
		{"six, as there is a Limit", alike(50, 50, 8, 2, 2, 2), 6, api.OK},
		{"seven, as there is a Limit", alike(50, 50, 8, 2, 2, 3), 0, api.ErrBound},
		{"all hours that there may be", alike(100, 1000, 8, 8, 8, 8), 3, api.OK},
		{"all of them, four at a time", alike(1, 4, 8, 8, 8, 8), 6, api.OK},
		{"all of them, three at a time", alike(1, 3, 8, 8, 8, 8), 0, api.ErrBound},
		{"hours of the rooms go together", spill.Team{Rates: ranges(to(1, 1), to(9, 9)), Hours: numbers(2, 2), Limit: 10, Most: 2}, 2, api.OK},
		{"hours of the rooms do not go together", spill.Team{Rates: ranges(to(1, 1), to(9, 9)), Hours: numbers(2, 2), Limit: 9, Most: 2}, 3, api.OK},
		{"the greatest rate counts", spill.Team{Rates: ranges(to(0, 10)), Hours: numbers(4), Limit: 20, Most: 8}, 2, api.OK},
		{"greedy hands need more", spill.Team{Rates: ranges(to(4, 4), to(3, 3)), Hours: numbers(2, 4), Limit: 10, Most: 8}, 2, api.OK},
		{"no team", spill.Team{}, 0, api.ErrArg},
	} {
		roster, e := spill.Roster(x.team)
		if len(roster) != x.many || e != x.e || e == api.OK && !spill.ProveRoster(x.team, roster, x.many) {
			t.Errorf("%s: %v, %v, not %d, %v", x.name, roster, e, x.many, x.e)
		}
	}
}

// P10.5
func TestProveRoster(t *testing.T) {
	lazy := exampleTeam()
	lazy.Hours = numbers(0, 0)
	six := spill.Team{Rates: ranges(to(0, 1)), Hours: numbers(6), Limit: 1, Most: 1}
	seven := six
	seven.Hours = numbers(7)
	free := spill.Team{Rates: ranges(to(0, 0), to(0, 0)), Hours: numbers(4, 4), Most: 4}
	ones := func(many int) [][]int { return slices.Repeat([][]int{{1}}, many) }
	for _, x := range []struct {
		name   string
		team   spill.Team
		roster [][]int
		many   int
		want   bool
	}{
		{"the example", exampleTeam(), [][]int{{4, 1}, {0, 2}}, 2, true},
		{"of at most more", exampleTeam(), [][]int{{4, 1}, {0, 2}}, math.MaxInt, true},
		{"of at most fewer", exampleTeam(), [][]int{{4, 1}, {0, 2}}, 1, false},
		{"with one who does nothing", exampleTeam(), [][]int{{4, 1}, {0, 2}, {0, 0}}, 3, true},
		{"three", exampleTeam(), [][]int{{4, 0}, {0, 1}, {0, 2}}, 3, true},
		{"somebody breathes too much", exampleTeam(), [][]int{{3, 2}, {1, 1}}, 2, false},
		{"at the least rates not, but at others", exampleTeam(), [][]int{{1, 3}, {3, 0}}, 2, false},
		{"somebody works too much", free, [][]int{{3, 2}, {1, 2}}, 2, false},
		{"just enough", free, [][]int{{3, 1}, {1, 3}}, 2, true},
		{"an hour is missing", free, [][]int{{3, 1}, {1, 2}}, 2, false},
		{"an hour too much", free, [][]int{{3, 1}, {1, 3}, {1, 0}}, 3, false},
		{"in the other room", free, [][]int{{1, 3}, {4, 0}}, 2, false},
		{"hours below 0", free, [][]int{{4, 0}, {1, 3}, {-1, 1}}, 3, false},
		{"more hours than Most, and others below 0", free, [][]int{{5, -1}, {-1, 5}}, 2, false},
		{"a room is missing", free, [][]int{{4}, {0, 4}}, 2, false},
		{"a room too many", free, [][]int{{4, 0, 0}, {0, 4, 0}}, 2, false},
		{"more rooms than there may be", free, [][]int{{4, 0, 0, 0}, {0, 4, 0, 0}}, 2, false},
		{"an apprentice without hours for the rooms", free, [][]int{{4, 0}, {0, 4}, nil}, 3, false},
		{"nobody", exampleTeam(), nil, 2, false},
		{"nobody, and nothing to do", lazy, nil, 0, true},
		{"nobody, of fewer than none", lazy, nil, -1, false},
		{"somebody who does nothing", lazy, [][]int{{0, 0}}, 1, true},
		{"six", six, ones(6), 6, true},
		{"seven", seven, ones(7), 7, false},
		{"seven, of whom one does nothing", six, append(ones(6), numbers(0)), 7, false},
		{"far hours", free, [][]int{{math.MinInt, 4}, {math.MaxInt, 0}}, 2, false},
		{"no team", spill.Team{}, nil, 0, false},
		{"a team with too many rates", spill.Team{Rates: make([]spill.Range, 4), Hours: make([]int, 4)}, nil, 0, false},
		{"a team with a far Most", spill.Team{Rates: ranges(to(0, 0)), Hours: numbers(1), Most: 9}, [][]int{{1}}, 1, false},
	} {
		if is := spill.ProveRoster(x.team, x.roster, x.many); is != x.want {
			t.Errorf("%s: %v", x.name, is)
		}
	}
}
