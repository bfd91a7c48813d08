package recall_test

import (
	"math/rand/v2"
	"slices"

	"meniscus/api"
	"meniscus/recall"
)

// This file has what the chapter defines, word by word and without haste, for
// the properties to be held against.

// dice give the same numbers in each run.
type dice struct{ *rand.Rand }

func newDice(seed uint64) dice { return dice{rand.New(rand.NewPCG(seed, 9))} }

func (d dice) from(lo, hi int) int { return lo + d.IntN(hi-lo+1) }

// limits tell how large what dice make is.
type limits struct{ owners, total, sales, day int }

// smallLimits leave so few orders and days that all can be tried.
func smallLimits() limits { return limits{owners: 4, total: 6, sales: 5, day: 4} }

func anyLimits() limits {
	return limits{owners: api.MaxRecallOwners, total: api.MaxRecallTotal, sales: api.MaxRecallSales, day: api.MaxRecallDay}
}

// fewDays have as many sales as there can be.
func fewDays() limits { return limits{owners: 5, total: 12, sales: api.MaxRecallSales, day: 6} }

// truth is an order of sales, and a day for each.
type truth struct{ order, days []int }

// sold plays sales, tells between which days each of them was, and lists them in
// some order; the truth is what was played.
func (d dice) sold(l limits) (recall.Batch, truth) {
	b := recall.Batch{Owners: d.from(2, l.owners), Total: d.from(1, l.total)}
	has := make([]int, b.Owners)
	has[0] = b.Total
	var days []int
	day := d.from(0, l.day/2)
	for range d.from(0, l.sales) {
		from := d.IntN(b.Owners)
		for has[from] == 0 {
			from = d.IntN(b.Owners)
		}
		s := recall.Sale{From: from, To: (from + d.from(1, b.Owners-1)) % b.Owners, Many: d.from(1, has[from])}
		has[s.From] -= s.Many
		has[s.To] += s.Many
		day = min(l.day, day+d.IntN(1+l.day/4)*d.IntN(2))
		wide := d.IntN(2 + l.day/2)
		s.Days = recall.Range{Lo: max(0, day-d.from(0, wide)), Hi: min(l.day, day+d.from(0, wide))}
		b.Sales = append(b.Sales, s)
		days = append(days, day)
	}
	return shuffled(b, truth{days: days}, d.Perm(len(b.Sales)))
}

// shuffled has the sales at other places, and the truth in which they were as
// they are listed in b.
func shuffled(b recall.Batch, played truth, places []int) (recall.Batch, truth) {
	other := b
	other.Sales = make([]recall.Sale, len(b.Sales))
	t := truth{days: make([]int, len(b.Sales))}
	for number, place := range places {
		other.Sales[place] = b.Sales[number]
		t.days[place] = played.days[number]
		t.order = append(t.order, place)
	}
	return other, t
}

// batch is one that was sold, with some changes, so that it can contradict
// itself.
func (d dice) batch(l limits) recall.Batch {
	b, _ := d.sold(l)
	for range d.IntN(6) * d.IntN(2) {
		if len(b.Sales) == 0 {
			break
		}
		s := &b.Sales[d.IntN(len(b.Sales))]
		switch d.IntN(4) {
		case 0:
			s.From = (s.To + d.from(1, b.Owners-1)) % b.Owners
		case 1:
			s.To = (s.From + d.from(1, b.Owners-1)) % b.Owners
		case 2:
			s.Many = d.from(1, b.Total)
		case 3:
			s.Days.Lo = d.from(0, l.day)
			s.Days.Hi = d.from(s.Days.Lo, l.day)
		}
	}
	return b
}

func isTruth(b recall.Batch, order, days []int) bool {
	once := slices.Sorted(slices.Values(order))
	if len(order) != len(b.Sales) || len(days) != len(b.Sales) {
		return false
	}
	for number := range b.Sales {
		if once[number] != number {
			return false
		}
	}
	for turn, number := range order {
		s := b.Sales[number]
		if days[number] < s.Days.Lo || days[number] > s.Days.Hi {
			return false
		}
		has := 0
		if s.From == 0 {
			has = b.Total
		}
		for _, before := range order[:turn] {
			if days[number] < days[before] {
				return false
			}
			if b.Sales[before].To == s.From {
				has += b.Sales[before].Many
			}
			if b.Sales[before].From == s.From {
				has -= b.Sales[before].Many
			}
		}
		if has < s.Many {
			return false
		}
	}
	return true
}

// evening is what each owner has on the evening of the day, if the sales are on
// these days.
func evening(b recall.Batch, days []int, day int) []int {
	has := make([]int, b.Owners)
	has[0] = b.Total
	for number, s := range b.Sales {
		if days[number] <= day {
			has[s.From] -= s.Many
			has[s.To] += s.Many
		}
	}
	return has
}

// truthsOf tries all orders, with all days.
func truthsOf(b recall.Batch) []truth {
	var all []truth
	days := make([]int, len(b.Sales))
	var order []int
	var tryDays func(number int)
	tryDays = func(number int) {
		if number == len(days) {
			if isTruth(b, order, days) {
				all = append(all, truth{order: slices.Clone(order), days: slices.Clone(days)})
			}
			return
		}
		for day := b.Sales[number].Days.Lo; day <= b.Sales[number].Days.Hi; day++ {
			days[number] = day
			tryDays(number + 1)
		}
	}
	var tryOrders func()
	tryOrders = func() {
		if len(order) == len(b.Sales) {
			tryDays(0)
			return
		}
		for number := range b.Sales {
			if !slices.Contains(order, number) {
				order = append(order, number)
				tryOrders()
				order = order[:len(order)-1]
			}
		}
	}
	tryOrders()
	return all
}

// told is what is so in some truth: the days of each sale, and what each owner
// has on the evening of each day, up to the last one that was asked for.
type told struct {
	truths bool
	when   []recall.Range
	holds  [][]recall.Range
}

func untold(b recall.Batch, lastDay int) told {
	none := recall.Range{Lo: api.MaxRecallTotal + 1, Hi: -1}
	t := told{when: slices.Repeat([]recall.Range{none}, len(b.Sales))}
	for range b.Owners {
		t.holds = append(t.holds, slices.Repeat([]recall.Range{none}, lastDay+1))
	}
	return t
}

func note(r *recall.Range, number int) { r.Lo, r.Hi = min(r.Lo, number), max(r.Hi, number) }

func (t *told) noteEvening(day int, has []int) {
	for owner, many := range has {
		note(&t.holds[owner][day], many)
	}
}

func toldBy(b recall.Batch, truths []truth, lastDay int) told {
	t := untold(b, lastDay)
	for _, x := range truths {
		t.truths = true
		for number, day := range x.days {
			note(&t.when[number], day)
		}
		for day := range lastDay + 1 {
			t.noteEvening(day, evening(b, x.days, day))
		}
	}
	return t
}

// sets has of each set of sales, by its bits, whether it is meant.
type sets [1 << api.MaxRecallSales]bool

// canBeNext reports whether the sale can be on the day, right behind those of the
// set.
func canBeNext(b recall.Batch, set, number, day int) bool {
	s := b.Sales[number]
	if set>>number&1 == 1 || day < s.Days.Lo || day > s.Days.Hi {
		return false
	}
	return haveBehind(b, set)[s.From] >= s.Many
}

func haveBehind(b recall.Batch, set int) []int {
	days := make([]int, len(b.Sales))
	for number := range days {
		days[number] = 1 - set>>number&1
	}
	return evening(b, days, 0)
}

// toldByDays goes through the days, forwards with the sets of sales that can be
// done by then, and backwards with those behind which all others can be. It can
// be asked of any batch, as it does not try each order with each day.
func toldByDays(b recall.Batch, lastDay int) told {
	t := untold(b, lastDay)
	all := 1<<len(b.Sales) - 1
	behind := make([]sets, lastDay+2) // behind[day]: the others can be on this day, or later
	behind[lastDay+1][all] = true
	for day := lastDay; day >= 0; day-- {
		behind[day] = behind[day+1]
		for set := all; set >= 0; set-- {
			for number := range b.Sales {
				if canBeNext(b, set, number, day) && behind[day][set|1<<number] {
					behind[day][set] = true
				}
			}
		}
	}
	t.truths = behind[0][0]
	var done sets
	done[0] = true
	for day := range lastDay + 1 {
		for set := range all + 1 {
			for number := range b.Sales {
				if next := set | 1<<number; done[set] && canBeNext(b, set, number, day) {
					done[next] = true
					if behind[day][next] {
						note(&t.when[number], day)
					}
				}
			}
			if done[set] && behind[day+1][set] {
				t.noteEvening(day, haveBehind(b, set))
			}
		}
	}
	return t
}

// reached are the owners that can have pieces on the evening of the day, and
// those that surely have some.
func (t told) reached(day int) (can, surely []int) {
	for owner, days := range t.holds {
		if days[day].Hi > 0 {
			can = append(can, owner)
		}
		if days[day].Lo > 0 {
			surely = append(surely, owner)
		}
	}
	return can, surely
}

func without(b recall.Batch, list []int) recall.Batch {
	sales := b.Sales
	b.Sales = nil
	for number, s := range sales {
		if !slices.Contains(list, number) {
			b.Sales = append(b.Sales, s)
		}
	}
	return b
}

// listsOf are all rising lists of sales: the shorter ones first, of one length the
// lesser ones first.
func listsOf(b recall.Batch) [][]int {
	var all [][]int
	for set := range 1 << len(b.Sales) {
		var list []int
		for number := range b.Sales {
			if set>>number&1 == 1 {
				list = append(list, number)
			}
		}
		all = append(all, list)
	}
	slices.SortFunc(all, func(a, b []int) int {
		if len(a) != len(b) {
			return len(a) - len(b)
		}
		return slices.Compare(a, b)
	})
	return all
}

// fewestOf are the fewest sales that need not be believed, where hasTruth tells of
// a batch whether it does not contradict itself.
func fewestOf(b recall.Batch, hasTruth func(b recall.Batch) bool) []int {
	for _, list := range listsOf(b) {
		if hasTruth(without(b, list)) {
			return list
		}
	}
	panic("without all sales a batch contradicts itself")
}
