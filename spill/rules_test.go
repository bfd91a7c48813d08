package spill_test

import (
	"math"
	"slices"
	"testing"

	"meniscus/api"
	"meniscus/spill"
)

// results are what each call that can have an error returns.
type results struct {
	played    [][]int
	can       bool
	stocks    [][]spill.Range
	missing   spill.Range
	room, day int
	fewest    []int
	blamed    int
	roster    [][]int
	errors    [9]api.Errno
}

func callAll(w spill.Works, x spill.Truth, b spill.Book, room, day int, team spill.Team) results {
	var r results
	r.errors[0] = spill.CheckWorks(w)
	r.played, r.can, r.errors[1] = spill.Play(w, x)
	r.stocks, r.errors[2] = spill.Stocks(w)
	r.missing, r.errors[3] = spill.Missing(w, b, room, day)
	r.room, r.day, r.errors[4] = spill.Lost(w, b)
	r.fewest, r.errors[5] = spill.Fewest(w)
	r.blamed, r.errors[6] = spill.Blame(w)
	r.errors[7] = spill.CheckTeam(team)
	r.roster, r.errors[8] = spill.Roster(team)
	return r
}

// zeroWithErrors reports whether each result that comes with an error is zero.
func (r results) zeroWithErrors() bool {
	zero := [9]bool{
		true, len(r.played) == 0 && !r.can, len(r.stocks) == 0, r.missing == spill.Range{}, r.room == 0 && r.day == 0,
		len(r.fewest) == 0, r.blamed == 0, true, len(r.roster) == 0,
	}
	for call, e := range r.errors {
		if e != api.OK && !zero[call] {
			return false
		}
	}
	return true
}

func (r results) same(other results) bool {
	return sameNumbers(r.played, other.played) && r.can == other.can && sameRanges(r.stocks, other.stocks) &&
		r.missing == other.missing && r.room == other.room && r.day == other.day &&
		slices.Equal(r.fewest, other.fewest) && r.blamed == other.blamed &&
		sameNumbers(r.roster, other.roster) && r.errors == other.errors
}

// R1 and R2, with the chapter's table of errors: each case has what its name
// says, and all that would come later.
func TestWhichErrorComesFirst(t *testing.T) {
	const ok, arg, rng, limit, none, fail = api.OK, api.ErrArg, api.ErrRange, api.ErrLimit, api.ErrNone, api.ErrFail
	all := func(e api.Errno) [7]api.Errno { return [7]api.Errno{e, e, e, e, e, e, e} }
	wrong := func(w *spill.Works) { w.Weighings[0].Grams = to(35, 40) }
	noTruth := func(w *spill.Works) { w.Rooms[0].First = to(39, 39) }
	noBook := spill.Book{Firsts: numbers(-1, 2), Grams: numbers(42, 20, 5)}
	lossless, book := exampleTruth(), spill.Book{Firsts: numbers(100, 5), Grams: numbers(45, 20, 0)}
	for _, c := range []struct {
		name      string
		change    func(w *spill.Works)
		x         spill.Truth
		b         spill.Book
		room, day int
		want      [7]api.Errno
	}{
		{"nothing wrong", func(w *spill.Works) {}, lossless, book, 1, 2, [7]api.Errno{ok, ok, ok, ok, ok, ok, none}},
		{"nothing surely missing", func(w *spill.Works) {}, lossless, exampleBook(), 1, 2, [7]api.Errno{ok, ok, ok, ok, none, ok, none}},
		{"one alone to blame", wrong, lossless, exampleBook(), 1, 2, [7]api.Errno{ok, ok, fail, fail, fail, ok, ok}},
		{"too many rooms, and nothing is right", func(w *spill.Works) { *w = spill.Works{Rooms: make([]spill.Room, 4)} }, spill.Truth{}, noBook, 9, 9, all(limit)},
		{"too many moves, and no day", func(w *spill.Works) { w.Days = 0; w.Moves = make([]spill.Move, 13) }, spill.Truth{}, noBook, 9, 9, all(limit)},
		{"too many weighings, and rooms that are none", func(w *spill.Works) { w.Rooms[0].First = to(1, 0); w.Weighings = make([]spill.Weighing, 9) }, spill.Truth{}, noBook, 9, 9, all(limit)},
		{"no days", func(w *spill.Works) { w.Days = 0 }, spill.Truth{}, noBook, 9, 9, all(arg)},
		{"a room that is none", func(w *spill.Works) { wrong(w); w.Rooms[1].Vapour = to(0, 51) }, spill.Truth{}, noBook, 9, 9, all(arg)},
		{"a move that is none", func(w *spill.Works) { wrong(w); w.Moves[2].To = 0 }, spill.Truth{}, noBook, 9, 9, all(arg)},
		{"a weighing that is none", func(w *spill.Works) { w.Weighings[0].Grams = to(24, 22) }, spill.Truth{}, noBook, 9, 9, all(arg)},
		{"no truth, no book, no room, and they do not agree", wrong, spill.Truth{}, noBook, 2, 3, [7]api.Errno{ok, rng, fail, rng, rng, ok, ok}},
		{"no book", func(w *spill.Works) {}, lossless, noBook, 0, 0, [7]api.Errno{ok, ok, ok, rng, rng, ok, none}},
		{"no such room, and they do not agree", wrong, lossless, exampleBook(), 2, 0, [7]api.Errno{ok, ok, fail, rng, fail, ok, ok}},
		{"outside is no room", func(w *spill.Works) {}, lossless, book, outside, 0, [7]api.Errno{ok, ok, ok, rng, ok, ok, none}},
		{"a room far away", func(w *spill.Works) {}, lossless, book, math.MaxInt, 0, [7]api.Errno{ok, ok, ok, rng, ok, ok, none}},
		{"no such day, and they do not agree", wrong, lossless, exampleBook(), 0, 3, [7]api.Errno{ok, ok, fail, rng, fail, ok, ok}},
		{"a day below 0", func(w *spill.Works) {}, lossless, book, 0, -1, [7]api.Errno{ok, ok, ok, rng, ok, ok, none}},
		{"a day far away", func(w *spill.Works) {}, lossless, book, 0, math.MinInt, [7]api.Errno{ok, ok, ok, rng, ok, ok, none}},
		{"no truth can be", noTruth, spill.Truth{}, book, 0, 0, [7]api.Errno{ok, rng, fail, fail, fail, fail, none}},
		{"no truth can be, and there are no weighings", func(w *spill.Works) { noTruth(w); w.Weighings = nil }, spill.Truth{}, book, 0, 0, [7]api.Errno{ok, rng, fail, fail, fail, fail, none}},
		{"there are no weighings", func(w *spill.Works) { w.Weighings = nil }, lossless, exampleBook(), 0, 0, [7]api.Errno{ok, ok, ok, ok, none, ok, none}},
	} {
		w := example(exampleWeighing())
		c.change(&w)
		r := callAll(w, c.x, c.b, c.room, c.day, exampleTeam())
		if got := [7]api.Errno(r.errors[:7]); got != c.want {
			t.Errorf("%s: %v, not %v", c.name, got, c.want)
		}
		if !r.zeroWithErrors() {
			t.Errorf("%s: results with errors: %v", c.name, r)
		}
	}
}

// R1 and R2: books that are none.
func TestWhatIsNoBook(t *testing.T) {
	for _, x := range []struct {
		name   string
		change func(b *spill.Book)
		want   api.Errno
	}{
		{"the example", func(b *spill.Book) {}, api.OK},
		{"all at the least", func(b *spill.Book) { *b = spill.Book{Firsts: numbers(0, 0), Grams: numbers(0, 0, 0)} }, api.OK},
		{"all at the most", func(b *spill.Book) {
			*b = spill.Book{Firsts: numbers(2000, 2000), Grams: numbers(2000, 2000, 2000)}
		}, api.OK},
		{"nothing", func(b *spill.Book) { *b = spill.Book{} }, api.ErrRange},
		{"a first is missing", func(b *spill.Book) { b.Firsts = b.Firsts[:1] }, api.ErrRange},
		{"a first too many", func(b *spill.Book) { b.Firsts = append(b.Firsts, 0) }, api.ErrRange},
		{"a first below 0", func(b *spill.Book) { b.Firsts[1] = -1 }, api.ErrRange},
		{"a first too great", func(b *spill.Book) { b.Firsts[1] = 2001 }, api.ErrRange},
		{"a move is missing", func(b *spill.Book) { b.Grams = b.Grams[:2] }, api.ErrRange},
		{"a move too many", func(b *spill.Book) { b.Grams = append(b.Grams, 0) }, api.ErrRange},
		{"a move below 0", func(b *spill.Book) { b.Grams[0] = -1 }, api.ErrRange},
		{"a move too great", func(b *spill.Book) { b.Grams[2] = 2001 }, api.ErrRange},
		{"far numbers", func(b *spill.Book) { b.Grams = numbers(math.MinInt, math.MaxInt, 0) }, api.ErrRange},
	} {
		b := exampleBook()
		x.change(&b)
		r, e := spill.Missing(example(), b, 0, 0)
		room, day, f := spill.Lost(example(), b)
		if e != x.want || e != api.OK && r != to(0, 0) {
			t.Errorf("Missing, %s: %v, %v, not %v", x.name, r, e, x.want)
		}
		if (f == api.ErrRange) != (x.want == api.ErrRange) || f != api.OK && room+day != 0 {
			t.Errorf("Lost, %s: %d, %d, %v", x.name, room, day, f)
		}
	}
}

// R1 and R2, for teams.
func TestWhichErrorOfTeamsComesFirst(t *testing.T) {
	for _, x := range []struct {
		name   string
		change func(team *spill.Team)
		want   [2]api.Errno
	}{
		{"nothing wrong", func(team *spill.Team) {}, [2]api.Errno{api.OK, api.OK}},
		{"too many rates, and nothing right", func(team *spill.Team) {
			*team = spill.Team{Rates: slices.Repeat(ranges(to(1, 0)), 4), Limit: -1, Most: -1}
		}, [2]api.Errno{api.ErrLimit, api.ErrLimit}},
		{"not valid, and no roster is right", func(team *spill.Team) { team.Limit, team.Rates[0] = 0, to(5, 101) }, [2]api.Errno{api.ErrArg, api.ErrArg}},
		{"no roster is right", func(team *spill.Team) { team.Limit = 9 }, [2]api.Errno{api.OK, api.ErrBound}},
	} {
		team := exampleTeam()
		x.change(&team)
		roster, e := spill.Roster(team)
		if got := [2]api.Errno{spill.CheckTeam(team), e}; got != x.want || e != api.OK && len(roster) > 0 {
			t.Errorf("%s: %v, %v, not %v", x.name, got, roster, x.want)
		}
	}
}

// P1: no argument makes a call panic.
func TestNoArgumentPanics(t *testing.T) {
	far := []int{math.MinInt, math.MinInt + 1, -2, -1, 0, 0, 0, 1, 1, 2, 2, 3, 4, 5, 6, 7, 8, 9, 12, 13, 50, 51, 100, 101, 1000, 1001, 2000, 2001, math.MaxInt - 1, math.MaxInt}
	d := newDice(1)
	pick := func() int { return far[d.IntN(len(far))] }
	list := func() []int {
		var l []int
		for range d.IntN(5) {
			l = append(l, pick())
		}
		return l
	}
	lists := func() [][]int {
		var l [][]int
		for range d.IntN(4) {
			l = append(l, list())
		}
		return l
	}
	change := func(w *spill.Works, team *spill.Team) {
		r, m, g := &w.Rooms[d.IntN(len(w.Rooms))], &w.Moves[d.IntN(len(w.Moves))], &w.Weighings[d.IntN(len(w.Weighings))]
		switch d.IntN(12) {
		case 0:
			w.Days = pick()
		case 1:
			r.First = to(pick(), pick())
		case 2:
			r.Vapour = to(pick(), pick())
		case 3:
			m.Day = pick()
		case 4:
			m.From, m.To = pick(), pick()
		case 5:
			m.Grams = to(pick(), pick())
		case 6:
			*g = spill.Weighing{Room: pick(), Day: pick(), Grams: to(pick(), pick())}
		case 7:
			w.Rooms, w.Moves, w.Weighings = slices.Repeat(w.Rooms, d.from(1, 2)), slices.Repeat(w.Moves, d.from(1, 5)), slices.Repeat(w.Weighings, d.from(1, 9))
		case 8:
			team.Rates = slices.Repeat(ranges(to(pick(), pick())), d.IntN(5))
		case 9:
			team.Hours = list()
		case 10:
			team.Limit = pick()
		case 11:
			team.Most = pick()
		}
	}
	for range 20000 {
		w, team := example(exampleWeighing()), exampleTeam()
		for range d.from(1, 3) {
			change(&w, &team)
		}
		x, b := spill.Truth{Firsts: list(), Vapours: lists(), Grams: list()}, spill.Book{Firsts: list(), Grams: list()}
		if r := callAll(w, x, b, pick(), pick(), team); !r.zeroWithErrors() {
			t.Fatalf("%v, %v, %v, %v: %v", w, x, b, team, r)
		}
		if spill.ProveTruth(w, x) && !(spill.CheckWorks(w) == api.OK && isTruth(w, x)) {
			t.Fatalf("%v: %v is said to be a truth", w, x)
		}
		if roster := lists(); spill.ProveRoster(team, roster, pick()) && !(spill.CheckTeam(team) == api.OK && isRight(team, roster)) {
			t.Fatalf("%v: %v is said to be right", team, roster)
		}
	}
}

// R3: a list without elements is as nil.
func TestEmptyIsNil(t *testing.T) {
	x := spill.Truth{Firsts: numbers(4), Vapours: [][]int{{0}}}
	emptyX := spill.Truth{Firsts: numbers(4), Vapours: [][]int{{0}}, Grams: []int{}}
	b, emptyB := spill.Book{Firsts: numbers(5)}, spill.Book{Firsts: numbers(5), Grams: []int{}}
	w, emptyW := one(to(4, 4), 1), one(to(4, 4), 1)
	emptyW.Moves, emptyW.Weighings = []spill.Move{}, []spill.Weighing{}
	first := callAll(w, x, b, 0, 0, spill.Team{})
	again := callAll(emptyW, emptyX, emptyB, 0, 0, spill.Team{Rates: []spill.Range{}, Hours: []int{}})
	if !first.same(again) || first.errors[3] != api.OK || first.errors[1] != api.OK {
		t.Errorf("%v, %v", first, again)
	}
	if !spill.ProveTruth(w, emptyX) || !spill.ProveTruth(emptyW, x) {
		t.Error("no moves are not as none")
	}
	none, empty := spill.Works{Days: 1}, spill.Works{Rooms: []spill.Room{}, Days: 1}
	if !callAll(none, x, b, 0, 0, spill.Team{}).same(callAll(empty, x, b, 0, 0, spill.Team{})) {
		t.Error("no rooms are not as none")
	}
	lazy := spill.Team{Rates: ranges(to(1, 1)), Hours: numbers(0)}
	if !spill.ProveRoster(lazy, nil, 0) || !spill.ProveRoster(lazy, [][]int{}, 0) {
		t.Error("nobody is not as nobody")
	}
}

// overwrite has the number in all of the list's memory.
func overwrite[T any](list []T, value T) {
	full := list[:cap(list)]
	for n := range full {
		full[n] = value
	}
}

// R4, and that a call is again as it was: arguments stay as they are, and what is
// done with results changes nothing.
func TestMemory(t *testing.T) {
	wild := newDice(11).wild(400)
	for _, w := range []spill.Works{example(exampleWeighing()), example(weighing(1, 1, 35, 40)), greatest(), wild} {
		given, x, b, team := clone(w), exampleTruth(), exampleBook(), exampleTeam()
		for range 3 {
			first := callAll(w, x, b, 0, 1, team)
			again := callAll(given, exampleTruth(), exampleBook(), 0, 1, exampleTeam())
			if !first.same(again) {
				t.Errorf("twice the same: %v, %v", first, again)
			}
			for _, list := range slices.Concat(first.played, first.roster, [][]int{first.fewest}) {
				overwrite(list, 7)
			}
			for _, list := range first.stocks {
				overwrite(list, to(7, 7))
			}
			spill.ProveTruth(w, x)
			spill.ProveRoster(team, [][]int{{4, 1}, {0, 2}}, 2)
			if !slices.Equal(w.Rooms, given.Rooms) || !slices.Equal(w.Moves, given.Moves) || !slices.Equal(w.Weighings, given.Weighings) {
				t.Fatalf("the works was written to: %v", w)
			}
			was := exampleTruth()
			if !slices.Equal(x.Firsts, was.Firsts) || !sameNumbers(x.Vapours, was.Vapours) || !slices.Equal(x.Grams, was.Grams) {
				t.Fatalf("the truth was written to: %v", x)
			}
			if !slices.Equal(b.Firsts, exampleBook().Firsts) || !slices.Equal(b.Grams, exampleBook().Grams) {
				t.Fatalf("the book was written to: %v", b)
			}
			if !slices.Equal(team.Rates, exampleTeam().Rates) || !slices.Equal(team.Hours, exampleTeam().Hours) {
				t.Fatalf("the team was written to: %v", team)
			}
		}
	}
	roster := [][]int{{4, 1}, {0, 2}}
	if !spill.ProveRoster(exampleTeam(), roster, 2) || !sameNumbers(roster, [][]int{{4, 1}, {0, 2}}) {
		t.Errorf("the roster was written to: %v", roster)
	}
}

// R4: the lists of one result share no memory with each other.
func TestListsAreApart(t *testing.T) {
	played, _, _ := spill.Play(example(), exampleTruth())
	overwrite(played[0], -1)
	if !slices.Equal(played[1], numbers(45, 24, 29)) {
		t.Errorf("the stocks of rooms share memory: %v", played)
	}
	stocks := mustStocks(t, example(exampleWeighing()))
	overwrite(stocks[0], to(-1, -1))
	if !slices.Equal(stocks[1], ranges(to(42, 45), to(22, 24), to(21, 34))) {
		t.Errorf("the ranges of rooms share memory: %v", stocks)
	}
	team := spill.Team{Rates: ranges(to(0, 0)), Hours: numbers(6), Limit: 0, Most: 1}
	roster, _ := spill.Roster(team)
	for _, list := range roster[1:] {
		overwrite(list, -1)
	}
	if !slices.Equal(roster[0], numbers(1)) {
		t.Errorf("the hours of apprentices share memory: %v", roster)
	}
}
