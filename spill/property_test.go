package spill_test

import (
	"slices"
	"testing"

	"meniscus/api"
	"meniscus/spill"
)

// allWorks hands some works to a test.
func allWorks(t *testing.T, many int, l limits, try func(d dice, w spill.Works)) {
	t.Helper()
	d := newDice(2)
	for range many {
		w := d.works(l)
		if e := spill.CheckWorks(w); e != api.OK {
			t.Fatalf("%v: %v", w, e)
		}
		try(d, w)
		if t.Failed() {
			return
		}
	}
}

// playedWorks hands some works to a test whose weighings agree, and one of their
// truths.
func playedWorks(t *testing.T, many int, l limits, try func(d dice, w spill.Works, x spill.Truth)) {
	t.Helper()
	d := newDice(3)
	for range many {
		w, x := d.played(l)
		if stocks := stocksOf(w, x); !isTruth(w, x) || !canBe(stocks) || !agreesWithAll(w, stocks) || spill.CheckWorks(w) != api.OK {
			t.Fatalf("%v: %v", w, x)
		}
		try(d, w, x)
		if t.Failed() {
			return
		}
	}
}

func mustStocks(t *testing.T, w spill.Works) [][]spill.Range {
	t.Helper()
	stocks, e := spill.Stocks(w)
	if e != api.OK {
		t.Fatalf("Stocks of %v: %v", w, e)
	}
	return stocks
}

func mustMissing(t *testing.T, w spill.Works, b spill.Book, room, day int) spill.Range {
	t.Helper()
	r, e := spill.Missing(w, b, room, day)
	if e != api.OK {
		t.Fatalf("Missing of %v, %v, %d, %d: %v", w, b, room, day, e)
	}
	return r
}

// agree reports whether all weighings do, as Missing has it, by a book of nothing.
func agree(w spill.Works) bool {
	_, e := spill.Missing(w, spill.Book{Firsts: make([]int, len(w.Rooms)), Grams: make([]int, len(w.Moves))}, 0, 0)
	return e == api.OK
}

// fewer is how many weighings need not be believed: more than there can be, if no
// truth can be.
func fewer(w spill.Works) int {
	list, e := spill.Fewest(w)
	if e != api.OK {
		return api.MaxSpillWeighings + 1
	}
	return len(list)
}

func sameRanges(a, b [][]spill.Range) bool {
	return slices.EqualFunc(a, b, func(a, b []spill.Range) bool { return slices.Equal(a, b) })
}

func sameNumbers(a, b [][]int) bool {
	return slices.EqualFunc(a, b, func(a, b []int) bool { return slices.Equal(a, b) })
}

func withWeighing(w spill.Works, room, day int, grams spill.Range) spill.Works {
	w.Weighings = append(slices.Clone(w.Weighings), spill.Weighing{Room: room, Day: day, Grams: grams})
	return w
}

// book is what was written down: mostly as it was.
func (d dice) book(x spill.Truth, most int) spill.Book {
	b := spill.Book{Firsts: slices.Clone(x.Firsts), Grams: slices.Clone(x.Grams)}
	for _, list := range [][]int{b.Firsts, b.Grams} {
		for number, grams := range list {
			if d.IntN(4) == 0 {
				list[number] = min(api.MaxSpillGrams, max(0, grams+d.from(-most/5, most/5)))
			}
		}
	}
	return b
}

// says is what the book says.
func says(w spill.Works, b spill.Book, room, day int) int {
	x := spill.Truth{Firsts: b.Firsts, Grams: b.Grams, Vapours: make([][]int, len(w.Rooms))}
	for room := range x.Vapours {
		x.Vapours[room] = make([]int, w.Days)
	}
	return stocksOf(w, x)[room][day]
}

// enough reports a kind of case that was hardly tried.
func enough(t *testing.T, counts map[string]int, kinds ...string) {
	t.Helper()
	for _, kind := range kinds {
		if counts[kind] < 50 {
			t.Errorf("too few of a kind were tried: %s, of %v", kind, counts)
		}
	}
}

func checkStocks(t *testing.T, w spill.Works, want told) {
	t.Helper()
	stocks, e := spill.Stocks(w)
	if want.truths != (e == api.OK) || !want.truths && e != api.ErrFail || !sameRanges(stocks, want.stocks) {
		t.Errorf("Stocks of %v: %v, %v, not %v", w, stocks, e, want)
	}
}

func count(counts map[string]int, w spill.Works, want told) {
	if !want.truths {
		counts["they do not agree"]++
		return
	}
	counts["they agree"]++
	bare := toldByCuts(without(w, []int{0, 1, 2, 3, 4, 5, 6, 7}))
	for room, days := range want.stocks {
		for day, r := range days {
			if r != bare.stocks[room][day] && r != stockRange(w, room, day) {
				counts["narrowed from afar"]++
			}
			if r.Lo < r.Hi {
				counts["a wide range"]++
			}
		}
	}
}

// P10.2, and the document's P2: all truths are tried.
func TestStocksAsDefined(t *testing.T) {
	counts := map[string]int{}
	allWorks(t, 1000, smallLimits(), func(_ dice, w spill.Works) {
		want := toldBy(w)
		if other := toldByCuts(w); other.truths != want.truths || !sameRanges(other.stocks, want.stocks) {
			t.Fatalf("%v: %v, and by cuts %v", w, want, other)
		}
		count(counts, w, want)
		checkStocks(t, w, want)
	})
	enough(t, counts, "they do not agree", "they agree", "narrowed from afar", "a wide range")
}

// P10.2, of works of any size.
func TestStocksOfMore(t *testing.T) {
	for _, l := range []limits{someLimits(), anyLimits()} {
		counts := map[string]int{}
		allWorks(t, 1000, l, func(_ dice, w spill.Works) {
			want := toldByCuts(w)
			count(counts, w, want)
			checkStocks(t, w, want)
		})
		enough(t, counts, "they do not agree", "they agree", "narrowed from afar", "a wide range")
	}
}

// wild has all at random, so that no truth can be of most of them.
func (d dice) wild(most int) spill.Works {
	w := spill.Works{Days: d.from(1, api.MaxSpillDays)}
	for range d.from(1, api.MaxSpillRooms) {
		w.Rooms = append(w.Rooms, spill.Room{First: d.rangeUpTo(most), Vapour: d.rangeUpTo(api.MaxSpillVapour)})
	}
	for range d.from(0, api.MaxSpillMoves) {
		m, _ := d.move(make([]int, len(w.Rooms)), limits{})
		m.Day, m.Grams = d.IntN(w.Days), d.rangeUpTo(most)
		w.Moves = append(w.Moves, m)
	}
	for range d.from(0, api.MaxSpillWeighings) {
		w.Weighings = append(w.Weighings, spill.Weighing{Room: d.IntN(len(w.Rooms)), Day: d.IntN(w.Days), Grams: d.rangeUpTo(most)})
	}
	return w
}

// P10.2 and P10.4, of works that hardly any list of weighings leaves in agreement.
func TestWild(t *testing.T) {
	counts := map[string]int{}
	d := newDice(5)
	for range 500 {
		w := d.wild([]int{60, 400, api.MaxSpillGrams}[d.IntN(3)])
		want := toldByCuts(w)
		checkStocks(t, w, want)
		b := blameOf(w, hasTruth)
		checkBlame(t, w, b)
		counts[kindOf(b)]++
		if t.Failed() {
			return
		}
	}
	enough(t, counts, "no truth can be", "all agree", "two", "three and more")
}

func kindOf(b blamed) string {
	if !b.found {
		return "no truth can be"
	}
	return []string{"all agree", "one", "two", "three and more"}[min(3, len(b.fewest))]
}

func checkBlame(t *testing.T, w spill.Works, want blamed) {
	t.Helper()
	fewest, e := spill.Fewest(w)
	if want.found != (e == api.OK) || !want.found && e != api.ErrFail || !slices.Equal(fewest, want.fewest) {
		t.Errorf("Fewest of %v: %v, %v, not %v", w, fewest, e, want)
	}
	alone, e := spill.Blame(w)
	if want.hasAlone != (e == api.OK) || !want.hasAlone && e != api.ErrNone || alone != want.alone {
		t.Errorf("Blame of %v: %v, %v, not %v", w, alone, e, want)
	}
}

// P10.4, and the document's P6: all lists of weighings are tried.
func TestFewestAndBlameAsDefined(t *testing.T) {
	counts := map[string]int{}
	check := func(w spill.Works, agree func(w spill.Works) bool) {
		want := blameOf(w, agree)
		counts[kindOf(want)]++
		if want.hasAlone {
			counts["alone to blame"]++
		} else if len(want.fewest) == 1 {
			counts["one of several"]++
		}
		checkBlame(t, w, want)
	}
	allWorks(t, 400, smallLimits(), func(_ dice, w spill.Works) {
		check(w, func(w spill.Works) bool { return toldBy(w).truths })
	})
	allWorks(t, 800, someLimits(), func(_ dice, w spill.Works) { check(w, hasTruth) })
	allWorks(t, 2000, fewWeighings(), func(_ dice, w spill.Works) { check(w, hasTruth) })
	enough(t, counts, "no truth can be", "all agree", "one", "two", "alone to blame", "one of several")
}

// P10.1: Play, and ProveTruth of truths that stay ones, or not, whatever is
// changed in them.
func TestPlayAndProveTruthAsDefined(t *testing.T) {
	counts := map[string]int{}
	playedWorks(t, 4000, smallLimits(), func(d dice, w spill.Works, x spill.Truth) {
		for range d.IntN(4) {
			x = d.changed(x)
		}
		stocks, can, e := spill.Play(w, x)
		if !isTruth(w, x) {
			counts["none"]++
			if e != api.ErrRange || len(stocks) != 0 || can || spill.ProveTruth(w, x) {
				t.Errorf("Play of %v, %v: %v, %v, %v", w, x, stocks, can, e)
			}
			return
		}
		want := stocksOf(w, x)
		if e != api.OK || !sameNumbers(stocks, want) || can != canBe(want) {
			t.Errorf("Play of %v, %v: %v, %v, %v", w, x, stocks, can, e)
		}
		proved := canBe(want) && agreesWithAll(w, want)
		if is := spill.ProveTruth(w, x); is != proved {
			t.Errorf("ProveTruth of %v, %v: %v", w, x, is)
		}
		switch {
		case proved:
			counts["proved"]++
		case canBe(want):
			counts["does not agree"]++
		default:
			counts["cannot be"]++
		}
	})
	enough(t, counts, "none", "proved", "does not agree", "cannot be")
}

func (d dice) changed(x spill.Truth) spill.Truth {
	x = cloneTruth(x)
	lists := append([][]int{x.Firsts, x.Grams}, x.Vapours...)
	if list := lists[d.IntN(len(lists))]; len(list) > 0 {
		list[d.IntN(len(list))] += d.from(-1, 1)
	}
	switch d.IntN(30) {
	case 0:
		x.Firsts = append(x.Firsts, 0)
	case 1:
		x.Vapours = x.Vapours[:len(x.Vapours)/2]
	case 2:
		x.Grams = append(x.Grams, 0)
	case 3:
		for room, days := range x.Vapours {
			x.Vapours[room] = append(days, days...)
		}
	}
	return x
}

// others are truths near this one that can be, and agree with all weighings.
func (d dice) others(w spill.Works, x spill.Truth, many int) []spill.Truth {
	var list []spill.Truth
	for range many {
		other := cloneTruth(x)
		for range d.from(1, 6) {
			other = d.changed(other)
		}
		if !isTruth(w, other) {
			continue
		}
		if stocks := stocksOf(w, other); canBe(stocks) && agreesWithAll(w, stocks) {
			x = other
			list = append(list, other)
		}
	}
	return list
}

// P10.6, and the document's P2 and P4: no gram is lost.
func TestToTheGram(t *testing.T) {
	counts := map[string]int{}
	for _, l := range []limits{someLimits(), anyLimits()} {
		playedWorks(t, 150, l, func(d dice, w spill.Works, x spill.Truth) {
			truths := append(d.others(w, x, 20), x)
			counts["truths"] += len(truths)
			checkRanges(t, w, d.book(x, l.grams), truths)
			for _, x := range truths {
				checkGrams(t, w, x)
			}
		})
	}
	enough(t, counts, "truths")
}

// checkRanges holds stocks, and what is missing, in these truths against their
// ranges.
func checkRanges(t *testing.T, w spill.Works, b spill.Book, truths []spill.Truth) {
	t.Helper()
	for room, days := range mustStocks(t, w) {
		for day, r := range days {
			missing, says := mustMissing(t, w, b, room, day), says(w, b, room, day)
			for _, x := range truths {
				stock := stocksOf(w, x)[room][day]
				if !within(stock, r) || !within(says-stock, missing) {
					t.Errorf("%v: in %v the room %d has %d on day %d, not %v; by %v it misses %v", w, x, room, stock, day, r, b, missing)
				}
			}
		}
	}
}

func checkGrams(t *testing.T, w spill.Works, x spill.Truth) {
	t.Helper()
	stocks, can, e := spill.Play(w, x)
	if e != api.OK || !can || !spill.ProveTruth(w, x) {
		t.Fatalf("Play of %v, %v: %v, %v", w, x, can, e)
	}
	for day := range w.Days {
		had, has := 0, 0
		for room := range w.Rooms {
			had += x.Firsts[room]
			has += stocks[room][day]
			for _, vapour := range x.Vapours[room][:day+1] {
				has += vapour
			}
		}
		for number, m := range w.Moves {
			if m.Day <= day && m.From == spill.Outside {
				had += x.Grams[number]
			}
			if m.Day <= day && m.To == spill.Outside {
				has += x.Grams[number]
			}
		}
		if had != has {
			t.Errorf("%v, %v: %d grams came, %d are left or told as lost", w, x, had, has)
		}
	}
}

// P10.7: the ends, and what is beyond.
func TestEnds(t *testing.T) {
	counts := map[string]int{}
	for _, l := range []limits{smallLimits(), someLimits(), anyLimits()} {
		playedWorks(t, 150, l, func(_ dice, w spill.Works, _ spill.Truth) {
			for room, days := range mustStocks(t, w) {
				for day, r := range days {
					for _, grams := range []int{r.Lo, r.Hi, r.Lo - 1, r.Hi + 1} {
						if grams < 0 || grams > api.MaxSpillGrams {
							continue
						}
						more := withWeighing(w, room, day, spill.Range{Lo: grams, Hi: grams})
						if agree(more) != within(grams, r) {
							t.Errorf("%v: with %d in the room %d on day %d, which has %v, they agree: %v", w, grams, room, day, r, agree(more))
						}
						if !within(grams, r) {
							counts["beyond"]++
						}
					}
				}
			}
		})
	}
	enough(t, counts, "beyond")
}

// P10.3 and P10.8, and the document's P3: what is missing, and where it is surely
// missing first.
func TestMissingAndLost(t *testing.T) {
	counts := map[string]int{}
	for _, l := range []limits{smallLimits(), someLimits(), anyLimits()} {
		playedWorks(t, 300, l, func(d dice, w spill.Works, x spill.Truth) {
			b := d.book(x, l.grams)
			stocks := toldByCuts(w).stocks
			wantRoom, wantDay, want := 0, 0, api.ErrNone
			for day := w.Days - 1; day >= 0; day-- {
				for room := len(w.Rooms) - 1; room >= 0; room-- {
					says, stock := says(w, b, room, day), stocks[room][day]
					r := mustMissing(t, w, b, room, day)
					if r != (spill.Range{Lo: says - stock.Hi, Hi: says - stock.Lo}) {
						t.Errorf("Missing of %v, %v, %d, %d: %v, but the book says %d, and the stock is %v", w, b, room, day, r, says, stock)
					}
					if says > stock.Hi {
						wantRoom, wantDay, want = room, day, api.OK
					}
				}
			}
			room, day, e := spill.Lost(w, b)
			if room != wantRoom || day != wantDay || e != want {
				t.Errorf("Lost of %v, %v: %d, %d, %v, not %d, %d, %v", w, b, room, day, e, wantRoom, wantDay, want)
			}
			counts[map[bool]string{true: "nothing is lost", false: "lost on day 0"}[e != api.OK]]++
			if day > 0 {
				counts["lost later"]++
			}
			if room > 0 {
				counts["lost in another room"]++
			}
		})
	}
	enough(t, counts, "nothing is lost", "lost on day 0", "lost later", "lost in another room")
}

// narrowed has one range less wide.
func (d dice) narrowed(w spill.Works) spill.Works {
	w = clone(w)
	room := &w.Rooms[d.IntN(len(w.Rooms))]
	ranges := []*spill.Range{&room.First, &room.Vapour}
	if len(w.Moves) > 0 {
		ranges = append(ranges, &w.Moves[d.IntN(len(w.Moves))].Grams)
	}
	if len(w.Weighings) > 0 {
		ranges = append(ranges, &w.Weighings[d.IntN(len(w.Weighings))].Grams)
	}
	r := ranges[d.IntN(len(ranges))]
	if r.Lo < r.Hi && d.IntN(2) == 0 {
		r.Lo++
	} else if r.Lo < r.Hi {
		r.Hi--
	}
	return w
}

// P10.9: a weighing more, or narrower ranges.
func TestMore(t *testing.T) {
	counts := map[string]int{}
	allWorks(t, 800, someLimits(), func(d dice, w spill.Works) {
		more, kind := d.narrowed(w), "with narrower ranges"
		if d.IntN(2) == 0 {
			more, kind = withWeighing(w, d.IntN(len(w.Rooms)), d.IntN(w.Days), d.rangeUpTo(80)), "with a weighing more"
		} else {
			for range 30 {
				more = d.narrowed(more)
			}
		}
		if before, after := fewer(w), fewer(more); after < before {
			t.Errorf("%v: %d need not be believed, of %v %d", w, before, more, after)
		} else if after > before {
			counts["fewer believed "+kind]++
		}
		if !agree(more) {
			return
		}
		before := mustStocks(t, w)
		for room, days := range mustStocks(t, more) {
			for day, r := range days {
				was := before[room][day]
				if r.Lo < was.Lo || r.Hi > was.Hi {
					t.Errorf("%v: the stocks are %v, of %v %v", w, before, more, days)
				}
				if r != was {
					counts[kind]++
				}
			}
		}
	})
	enough(t, counts, "with a weighing more", "with narrower ranges", "fewer believed with a weighing more", "fewer believed with narrower ranges")
}

// P10.10: a day more.
func TestLater(t *testing.T) {
	counts := map[string]int{}
	for _, l := range []limits{smallLimits(), someLimits(), anyLimits()} {
		l.days = min(l.days, api.MaxSpillDays-1)
		allWorks(t, 300, l, func(_ dice, w spill.Works) {
			for room := range w.Rooms {
				w.Rooms[room].Vapour.Lo = 0
			}
			later := w
			later.Days++
			if agree(w) != agree(later) {
				t.Errorf("%v agree: %v, a day later: %v", w, agree(w), agree(later))
			}
			if !agree(w) {
				return
			}
			counts["they agree"]++
			ranges := mustStocks(t, w)
			for room, days := range mustStocks(t, later) {
				last := len(days) - 1
				if !slices.Equal(days[:last], ranges[room]) {
					t.Errorf("%v: the stocks are %v, with a day more %v", w, ranges[room], days)
				}
			}
		})
	}
	enough(t, counts, "they agree")
}

// P10.11: some weighings are false.
func TestFalse(t *testing.T) {
	counts := map[string]int{}
	for _, l := range []limits{smallLimits(), someLimits(), anyLimits()} {
		playedWorks(t, 150, l, func(d dice, w spill.Works, x spill.Truth) {
			for number := range w.Weighings {
				if d.IntN(3) == 0 {
					d.change(&w.Weighings[number].Grams, l.grams)
				}
			}
			wrong := 0
			for _, g := range w.Weighings {
				if !agreesWith(stocksOf(w, x), g) {
					wrong++
				}
			}
			if fewest := fewer(w); fewest > wrong {
				t.Errorf("%v: %v is a truth, and does not agree with %d, but %d need not be believed", w, x, wrong, fewest)
			} else if fewest > 0 {
				counts["some are false"]++
			}
		})
	}
	enough(t, counts, "some are false")
}

// P7 of the document: moves and weighings that are listed in another order.
func TestAnyOrder(t *testing.T) {
	counts := map[string]int{}
	allWorks(t, 500, someLimits(), func(d dice, w spill.Works) {
		other := clone(w)
		d.Shuffle(len(w.Moves), func(i, j int) { other.Moves[i], other.Moves[j] = other.Moves[j], other.Moves[i] })
		d.Shuffle(len(w.Weighings), func(i, j int) {
			other.Weighings[i], other.Weighings[j] = other.Weighings[j], other.Weighings[i]
		})
		was, e := spill.Stocks(w)
		is, f := spill.Stocks(other)
		if e != f || !sameRanges(was, is) || fewer(w) != fewer(other) {
			t.Errorf("Stocks of %v: %v, %v; of %v: %v, %v", w, was, e, other, is, f)
		}
		a, e := spill.Blame(w)
		b, f := spill.Blame(other)
		if e != f || e == api.OK && w.Weighings[a] != other.Weighings[b] {
			t.Errorf("Blame of %v: %d, %v; of %v: %d, %v", w, a, e, other, b, f)
		}
		counts[map[bool]string{true: "alone to blame", false: "none is"}[e == api.OK]]++
	})
	enough(t, counts, "alone to blame", "none is")
}

func (d dice) team(rate, hours int) spill.Team {
	var team spill.Team
	for range d.from(1, api.MaxSpillRooms) {
		team.Rates = append(team.Rates, d.rangeUpTo(rate))
		team.Hours = append(team.Hours, d.from(0, hours))
	}
	team.Most = d.from(0, hours)
	team.Limit = d.from(0, min(api.MaxSpillLimit, 1+rate*d.from(1, 3*hours)/2))
	return team
}

// manyNeeded is how many apprentices Roster has, which have to be right: one more
// than there may be, if no roster is.
func manyNeeded(t *testing.T, team spill.Team) int {
	t.Helper()
	roster, e := spill.Roster(team)
	if e == api.ErrBound && len(roster) == 0 {
		return api.MaxSpillTeam + 1
	}
	if e != api.OK || !isRight(team, roster) {
		t.Fatalf("Roster of %v: %v, %v", team, roster, e)
	}
	return len(roster)
}

// P10.5 and P10.12, and the document's P5: all rosters are tried.
func TestRosterAsDefined(t *testing.T) {
	counts := map[string]int{}
	d := newDice(7)
	for range 1500 {
		team := d.team(4, 4)
		if e := spill.CheckTeam(team); e != api.OK {
			t.Fatalf("%v: %v", team, e)
		}
		many, want := manyNeeded(t, team), fewestOf(team)
		if many != want {
			t.Fatalf("Roster of %v: %d, not %d", team, many, want)
		}
		counts[[]string{"none", "one", "two", "three", "four", "five", "six", "no roster is right"}[want]]++
	}
	enough(t, counts, "none", "one", "two", "three", "no roster is right")
}

// P10.5: a roster that is changed stays right, or not.
func TestProveRosterAsDefined(t *testing.T) {
	counts := map[string]int{}
	d := newDice(8)
	for range 6000 {
		team := d.team(4, 4)
		roster, e := spill.Roster(team)
		if e != api.OK || len(roster) == 0 {
			continue
		}
		for range d.from(1, 2) {
			roster = d.changedRoster(team, roster)
		}
		many := len(roster) + d.from(-1, 1)
		right := isRight(team, roster)
		counts[map[bool]string{true: "right", false: "wrong"}[right]]++
		if is := spill.ProveRoster(team, roster, many); is != (right && len(roster) <= many) {
			t.Fatalf("ProveRoster of %v, %v, %d: %v", team, roster, many, is)
		}
	}
	enough(t, counts, "right", "wrong")
}

// changedRoster has an hour that is worked otherwise, or by somebody else.
func (d dice) changedRoster(team spill.Team, roster [][]int) [][]int {
	changed := make([][]int, len(roster))
	for number, list := range roster {
		changed[number] = slices.Clone(list)
	}
	room := d.IntN(len(team.Rates))
	one, other := d.IntN(len(changed)), d.IntN(len(changed))
	switch d.IntN(8) {
	case 0:
		changed[one][room]++
	case 1:
		changed[one][room]--
	case 2:
		changed[one] = append(changed[one], 0)
	case 3:
		changed = append(changed, make([]int, len(team.Rates)))
	default:
		changed[one][room]--
		changed[other][room]++
	}
	return changed
}

// P10.12: with more of what helps, no more apprentices are needed; and none needs
// fewer than Roster has, of teams of any size.
func TestHealth(t *testing.T) {
	counts := map[string]int{}
	d := newDice(9)
	for range 2000 {
		team := d.team(api.MaxSpillRate, api.MaxSpillHours)
		easier, kind := d.easier(team)
		before, after := manyNeeded(t, team), manyNeeded(t, easier)
		if after > before {
			t.Fatalf("%v needs %d, %v %d", team, before, easier, after)
		}
		if after < before {
			counts[kind]++
		}
		if before <= api.MaxSpillTeam {
			roster, _ := spill.Roster(team)
			if !spill.ProveRoster(team, roster, before) || spill.ProveRoster(team, roster, before-1) {
				t.Fatalf("ProveRoster of %v, %v, %d", team, roster, before)
			}
		}
	}
	for _, kind := range []string{"a greater Limit", "a greater Most", "hours less", "lesser rates"} {
		if counts[kind] < 20 {
			t.Errorf("too few of a kind were tried: %s, of %v", kind, counts)
		}
	}
}

func (d dice) easier(team spill.Team) (spill.Team, string) {
	team.Rates, team.Hours = slices.Clone(team.Rates), slices.Clone(team.Hours)
	room := d.IntN(len(team.Rates))
	switch d.IntN(4) {
	case 0:
		team.Limit = d.from(team.Limit, api.MaxSpillLimit)
		return team, "a greater Limit"
	case 1:
		team.Most = d.from(team.Most, api.MaxSpillHours)
		return team, "a greater Most"
	case 2:
		team.Hours[room] = d.from(0, team.Hours[room])
		return team, "hours less"
	default:
		team.Rates[room].Hi = d.from(team.Rates[room].Lo, team.Rates[room].Hi)
		return team, "lesser rates"
	}
}
