package spill_test

import (
	"math/rand/v2"
	"slices"

	"meniscus/api"
	"meniscus/spill"
)

// This file has what the chapter defines, word by word and without haste, for
// the properties to be held against.

// dice give the same numbers in each run.
type dice struct{ *rand.Rand }

func newDice(seed uint64) dice { return dice{rand.New(rand.NewPCG(seed, 10))} }

func (d dice) from(lo, hi int) int { return lo + d.IntN(hi-lo+1) }

// around is a range of numbers up to the most that has the number.
func (d dice) around(number, wide, most int) spill.Range {
	return spill.Range{Lo: max(0, number-d.from(0, wide)), Hi: min(most, number+d.from(0, wide))}
}

func (d dice) rangeUpTo(most int) spill.Range {
	r := spill.Range{Lo: d.from(0, most), Hi: d.from(0, most)}
	return spill.Range{Lo: min(r.Lo, r.Hi), Hi: max(r.Lo, r.Hi)}
}

// limits tell how large what dice make is, and how wide its ranges are.
type limits struct{ rooms, days, moves, weighings, grams, vapour, wide int }

// smallLimits leave so few truths that all can be tried.
func smallLimits() limits {
	return limits{rooms: 2, days: 3, moves: 3, weighings: 4, grams: 6, vapour: 2, wide: 1}
}

// someLimits have narrow ranges, so that weighings often say something.
func someLimits() limits {
	return limits{rooms: api.MaxSpillRooms, days: api.MaxSpillDays, moves: api.MaxSpillMoves, weighings: api.MaxSpillWeighings - 1, grams: 60, vapour: 3, wide: 9}
}

// fewWeighings are often not enough to tell which of them is wrong.
func fewWeighings() limits {
	return limits{rooms: 2, days: 3, moves: 3, weighings: 4, grams: 30, vapour: 2, wide: 12}
}

func anyLimits() limits {
	return limits{rooms: api.MaxSpillRooms, days: api.MaxSpillDays, moves: api.MaxSpillMoves, weighings: api.MaxSpillWeighings - 1, grams: api.MaxSpillGrams, vapour: api.MaxSpillVapour, wide: 400}
}

// played plays days in the works, and tells between which bounds all of it was;
// the truth is what was played.
func (d dice) played(l limits) (spill.Works, spill.Truth) {
	w := spill.Works{Days: d.from(1, l.days)}
	var x spill.Truth
	for range d.from(1, l.rooms) {
		first := d.from(0, l.grams)
		w.Rooms = append(w.Rooms, spill.Room{First: d.around(first, l.wide, api.MaxSpillGrams)})
		x.Firsts = append(x.Firsts, first)
	}
	moves := make([]int, w.Days)
	for range d.from(0, l.moves) {
		moves[d.IntN(w.Days)]++
	}
	stocks := slices.Clone(x.Firsts)
	x.Vapours = make([][]int, len(stocks))
	for day := range w.Days {
		for range moves[day] {
			m, grams := d.move(stocks, l)
			m.Day = day
			w.Moves, x.Grams = append(w.Moves, m), append(x.Grams, grams)
		}
		for room, stock := range stocks {
			vapour := d.from(0, min(l.vapour, stock))
			stocks[room] -= vapour
			x.Vapours[room] = append(x.Vapours[room], vapour)
		}
	}
	for room, days := range x.Vapours {
		w.Rooms[room].Vapour.Lo = d.around(slices.Min(days), l.wide, l.vapour).Lo
		w.Rooms[room].Vapour.Hi = d.around(slices.Max(days), l.wide, l.vapour).Hi
	}
	d.Shuffle(len(w.Moves), func(i, j int) {
		w.Moves[i], w.Moves[j] = w.Moves[j], w.Moves[i]
		x.Grams[i], x.Grams[j] = x.Grams[j], x.Grams[i]
	})
	return d.weighed(w, x, l), x
}

// move moves no more grams than there are, and tells between which bounds they
// were.
func (d dice) move(stocks []int, l limits) (spill.Move, int) {
	m := spill.Move{From: d.from(spill.Outside, len(stocks)-1), To: d.from(spill.Outside, len(stocks)-1)}
	for m.From == m.To {
		m.To = d.from(spill.Outside, len(stocks)-1)
	}
	grams := d.from(0, l.grams/2)
	if m.From != spill.Outside {
		grams = min(grams, stocks[m.From])
		stocks[m.From] -= grams
	}
	if m.To != spill.Outside {
		stocks[m.To] += grams
	}
	m.Grams = d.around(grams, l.wide, api.MaxSpillGrams)
	return m, grams
}

// weighed has weighings with which the truth agrees.
func (d dice) weighed(w spill.Works, x spill.Truth, l limits) spill.Works {
	stocks := stocksOf(w, x)
	for range d.from(0, l.weighings) {
		g := spill.Weighing{Room: d.IntN(len(w.Rooms)), Day: d.IntN(w.Days)}
		if stock := stocks[g.Room][g.Day]; stock <= api.MaxSpillGrams {
			g.Grams = d.around(stock, l.wide, api.MaxSpillGrams)
			w.Weighings = append(w.Weighings, g)
		}
	}
	return w
}

// works are ones that were played, with some changes, so that weighings need not
// agree, and no truth needs to be able to be.
func (d dice) works(l limits) spill.Works {
	w, _ := d.played(l)
	for range d.IntN(4) * d.IntN(2) {
		if len(w.Weighings) > 0 {
			d.change(&w.Weighings[d.IntN(len(w.Weighings))].Grams, l.grams)
		}
	}
	if d.IntN(4) == 0 && len(w.Moves) > 0 {
		d.change(&w.Moves[d.IntN(len(w.Moves))].Grams, l.grams)
	}
	if d.IntN(4) == 0 {
		d.change(&w.Rooms[d.IntN(len(w.Rooms))].First, l.grams)
	}
	return w
}

// change keeps the range as wide as it is.
func (d dice) change(r *spill.Range, most int) {
	wide := r.Hi - r.Lo
	r.Lo = d.from(0, most)
	r.Hi = min(r.Lo+wide, api.MaxSpillGrams)
}

func clone(w spill.Works) spill.Works {
	w.Rooms, w.Moves, w.Weighings = slices.Clone(w.Rooms), slices.Clone(w.Moves), slices.Clone(w.Weighings)
	return w
}

func cloneTruth(x spill.Truth) spill.Truth {
	vapours := make([][]int, len(x.Vapours))
	for room, days := range x.Vapours {
		vapours[room] = slices.Clone(days)
	}
	return spill.Truth{Firsts: slices.Clone(x.Firsts), Vapours: vapours, Grams: slices.Clone(x.Grams)}
}

func within(number int, r spill.Range) bool { return r.Lo <= number && number <= r.Hi }

func isTruth(w spill.Works, x spill.Truth) bool {
	if len(x.Firsts) != len(w.Rooms) || len(x.Vapours) != len(w.Rooms) || len(x.Grams) != len(w.Moves) {
		return false
	}
	for room, r := range w.Rooms {
		if !within(x.Firsts[room], r.First) || len(x.Vapours[room]) != w.Days {
			return false
		}
		for _, vapour := range x.Vapours[room] {
			if !within(vapour, r.Vapour) {
				return false
			}
		}
	}
	for number, m := range w.Moves {
		if !within(x.Grams[number], m.Grams) {
			return false
		}
	}
	return true
}

func stocksOf(w spill.Works, x spill.Truth) [][]int {
	stocks := make([][]int, len(w.Rooms))
	for room := range w.Rooms {
		stock := x.Firsts[room]
		for day := range w.Days {
			for number, m := range w.Moves {
				if m.Day == day && m.To == room {
					stock += x.Grams[number]
				}
				if m.Day == day && m.From == room {
					stock -= x.Grams[number]
				}
			}
			stock -= x.Vapours[room][day]
			stocks[room] = append(stocks[room], stock)
		}
	}
	return stocks
}

func canBe(stocks [][]int) bool {
	for _, days := range stocks {
		if slices.Min(days) < 0 {
			return false
		}
	}
	return true
}

func agreesWith(stocks [][]int, g spill.Weighing) bool {
	return within(stocks[g.Room][g.Day], g.Grams)
}

func agreesWithAll(w spill.Works, stocks [][]int) bool {
	for _, g := range w.Weighings {
		if !agreesWith(stocks, g) {
			return false
		}
	}
	return true
}

// truthsOf tries all truths, whether they can be or not.
func truthsOf(w spill.Works, try func(x spill.Truth)) {
	var ranges []spill.Range
	var numbers []*int
	x := spill.Truth{Firsts: make([]int, len(w.Rooms)), Vapours: make([][]int, len(w.Rooms)), Grams: make([]int, len(w.Moves))}
	add := func(number *int, r spill.Range) { numbers, ranges = append(numbers, number), append(ranges, r) }
	for room, r := range w.Rooms {
		add(&x.Firsts[room], r.First)
		x.Vapours[room] = make([]int, w.Days)
		for day := range w.Days {
			add(&x.Vapours[room][day], r.Vapour)
		}
	}
	for number, m := range w.Moves {
		add(&x.Grams[number], m.Grams)
	}
	var choose func(at int)
	choose = func(at int) {
		if at == len(numbers) {
			try(x)
			return
		}
		for n := ranges[at].Lo; n <= ranges[at].Hi; n++ {
			*numbers[at] = n
			choose(at + 1)
		}
	}
	choose(0)
}

// told is what is so in some truth that can be, and agrees with all weighings that
// are believed.
type told struct {
	truths bool
	stocks [][]spill.Range
}

func toldBy(w spill.Works) told {
	t := told{}
	truthsOf(w, func(x spill.Truth) {
		if stocks := stocksOf(w, x); canBe(stocks) && agreesWithAll(w, stocks) {
			t.note(stocks)
		}
	})
	return t
}

func (t *told) note(stocks [][]int) {
	for room, days := range stocks {
		if !t.truths {
			t.stocks = append(t.stocks, nil)
		}
		for day, stock := range days {
			if !t.truths {
				t.stocks[room] = append(t.stocks[room], spill.Range{Lo: stock, Hi: stock})
			}
			r := &t.stocks[room][day]
			r.Lo, r.Hi = min(r.Lo, stock), max(r.Hi, stock)
		}
	}
	t.truths = true
}

// toldByCuts has what is so in some truth of works of any size. For each set of rooms
// at the end of days, with what is outside or without it, as much comes in as goes
// out. So some truth can be, and agrees, if and only if of no set more must go out
// than can come in (Hoffman); and a stock that goes out of a set is at most what
// can come in, less what else must go out.
func toldByCuts(w spill.Works) told {
	t := told{truths: hasTruth(w)}
	if !t.truths {
		return t
	}
	for room := range w.Rooms {
		var days []spill.Range
		for day := range w.Days {
			given := stockRange(w, room, day)
			days = append(days, spill.Range{
				Lo: max(given.Lo, -spare(w, asked{room: room, day: day, in: true})),
				Hi: min(given.Hi, spare(w, asked{room: room, day: day, out: true})),
			})
		}
		t.stocks = append(t.stocks, days)
	}
	return t
}

func hasTruth(w spill.Works) bool {
	for room := range w.Rooms {
		for day := range w.Days {
			if r := stockRange(w, room, day); r.Lo > r.Hi {
				return false
			}
		}
	}
	return spare(w, asked{}) >= 0
}

const tooMuch = 1 << 30

func stockRange(w spill.Works, room, day int) spill.Range {
	r := spill.Range{Hi: tooMuch}
	for _, g := range w.Weighings {
		if g.Room == room && g.Day == day {
			r.Lo, r.Hi = max(r.Lo, g.Grams.Lo), min(r.Hi, g.Grams.Hi)
		}
	}
	return r
}

// asked is a stock that has to go out of each set, or into it, and is not counted;
// none, if neither.
type asked struct {
	room, day int
	in, out   bool
}

// spare is the least, of all sets, of what can come in at most, less what must go
// out at least.
func spare(w spill.Works, a asked) int {
	least := tooMuch * 2
	for outside := range 2 {
		before := make([]int, 1<<len(w.Rooms))
		for set := range before {
			for room, r := range w.Rooms {
				before[set] += crossing(outside == 1, set>>room&1 == 1, r.First)
			}
		}
		for day := range w.Days {
			for set := range before {
				before[set] += crossingOn(w, day, set, outside)
			}
			after := make([]int, len(before))
			for next := range after {
				after[next] = tooMuch * 2
				for set, sum := range before {
					after[next] = min(after[next], sum+crossingBehind(w, a, day, set, next))
				}
			}
			before = after
		}
		// Behind the last day all rooms are outside.
		least = min(least, before[outside*(len(before)-1)])
	}
	return least
}

func crossing(fromIn, toIn bool, r spill.Range) int {
	if fromIn && !toIn {
		return -r.Lo
	}
	if !fromIn && toIn {
		return r.Hi
	}
	return 0
}

// crossingOn counts moves and vapour of the day.
func crossingOn(w spill.Works, day, set, outside int) int {
	isIn := func(room int) bool {
		return room == spill.Outside && outside == 1 || room != spill.Outside && set>>room&1 == 1
	}
	sum := 0
	for room, r := range w.Rooms {
		sum += crossing(isIn(room), isIn(spill.Outside), r.Vapour)
	}
	for _, m := range w.Moves {
		if m.Day == day {
			sum += crossing(isIn(m.From), isIn(m.To), m.Grams)
		}
	}
	return sum
}

// crossingBehind counts the stocks at the end of the day, which go to the next
// set.
func crossingBehind(w spill.Works, a asked, day, set, next int) int {
	sum := 0
	for room := range w.Rooms {
		goesOut, goesIn := set>>room&1 == 1 && next>>room&1 == 0, set>>room&1 == 0 && next>>room&1 == 1
		if a.room == room && a.day == day && (a.in || a.out) {
			if goesOut != a.out || goesIn != a.in {
				return tooMuch * 2
			}
			continue
		}
		sum += crossing(set>>room&1 == 1, next>>room&1 == 1, stockRange(w, room, day))
	}
	return sum
}

func without(w spill.Works, list []int) spill.Works {
	weighings := w.Weighings
	w.Weighings = nil
	for number, g := range weighings {
		if !slices.Contains(list, number) {
			w.Weighings = append(w.Weighings, g)
		}
	}
	return w
}

// listsOf are all rising lists of numbers below the end: the shorter ones first, of
// one length the lesser ones first.
func listsOf(end int) [][]int {
	var all [][]int
	for set := range 1 << end {
		var list []int
		for number := range end {
			if set>>number&1 == 1 {
				list = append(list, number)
			}
		}
		all = append(all, list)
	}
	slices.SortFunc(all, func(a, b []int) int {
		if len(a) != len(b) {
			return len(a) - len(b)
		}
		return slices.Compare(a, b)
	})
	return all
}

// blamed is what Fewest and Blame have to return.
type blamed struct {
	fewest   []int
	found    bool
	alone    int
	hasAlone bool
}

// blameOf asks of all lists whether the others agree.
func blameOf(w spill.Works, agree func(w spill.Works) bool) blamed {
	var b blamed
	var ones []int
	for _, list := range listsOf(len(w.Weighings)) {
		if !agree(without(w, list)) {
			continue
		}
		if !b.found {
			b.fewest, b.found = list, true
		}
		if len(list) == 1 {
			ones = append(ones, list[0])
		}
	}
	if len(ones) == 1 && len(b.fewest) == 1 {
		b.alone, b.hasAlone = ones[0], true
	}
	return b
}

// hoursOf are all hours of one apprentice that the team allows: all rates are
// tried that can be.
func hoursOf(team spill.Team) [][]int {
	all := [][]int{nil}
	for range team.Rates {
		var longer [][]int
		for _, list := range all {
			for many := range team.Most + 1 {
				longer = append(longer, append(slices.Clone(list), many))
			}
		}
		all = longer
	}
	return slices.DeleteFunc(all, func(list []int) bool { return !mayWork(team, list) })
}

func mayWork(team spill.Team, list []int) bool {
	sum := 0
	for _, many := range list {
		sum += many
	}
	if sum > team.Most {
		return false
	}
	var breathes func(room, breathed int) bool
	breathes = func(room, breathed int) bool {
		if room == len(team.Rates) {
			return breathed <= team.Limit
		}
		for rate := team.Rates[room].Lo; rate <= team.Rates[room].Hi; rate++ {
			if !breathes(room+1, breathed+rate*list[room]) {
				return false
			}
		}
		return true
	}
	return breathes(0, 0)
}

func isRight(team spill.Team, roster [][]int) bool {
	if len(roster) > api.MaxSpillTeam {
		return false
	}
	left := slices.Clone(team.Hours)
	for _, list := range roster {
		if len(list) != len(team.Rates) || slices.Min(list) < 0 || slices.Max(list) > team.Most || !mayWork(team, list) {
			return false
		}
		for room, many := range list {
			left[room] -= many
		}
	}
	return slices.Min(left) == 0 && slices.Max(left) == 0
}

// fewestOf is how many apprentices are needed: those who work the same hours, or
// later ones in the list, are tried one behind the other. There are more than
// there may be if no roster is right.
func fewestOf(team spill.Team) int {
	all := hoursOf(team)
	var done func(left []int, first, more int) bool
	done = func(left []int, first, more int) bool {
		if slices.Max(left) == 0 {
			return true
		}
		for number := first; number < len(all) && more > 0; number++ {
			rest := slices.Clone(left)
			for room, many := range all[number] {
				rest[room] -= many
			}
			if slices.Min(rest) >= 0 && done(rest, number, more-1) {
				return true
			}
		}
		return false
	}
	for many := range api.MaxSpillTeam + 1 {
		if done(team.Hours, 0, many) {
			return many
		}
	}
	return api.MaxSpillTeam + 1
}
