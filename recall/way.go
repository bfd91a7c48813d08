package recall

import (
	"iter"

	"meniscus/api"
	"meniscus/lists"
)

// pieces are how many each owner has.
type pieces [api.MaxRecallOwners]int

// done tells which sales are done.
type done [api.MaxRecallSales]bool

func (d done) with(sale int) done {
	d[sale] = true
	return d
}

func (b Batch) allDone() done {
	var d done
	for sale := range b.Sales {
		d[sale] = true
	}
	return d
}

// behind is what all owners have when these sales are done: it is the same in
// whatever order they were.
func (b Batch) behind(d done) pieces {
	p := pieces{b.Total}
	for number, s := range b.Sales {
		if d[number] {
			p[s.From] -= s.Many
			p[s.To] += s.Many
		}
	}
	return p
}

// way is how far the sales have come: which are done, and on which day the last
// one of them was.
type way struct {
	done done
	day  int
}

// then is the way with one sale more, on the first day that it can have, and
// whether this sale can be the next one.
func (b Batch) then(w way, sale int) (way, bool) {
	s := b.Sales[sale]
	then := way{done: w.done.with(sale), day: lists.Greatest(w.day, s.Days.Lo)}
	can := !w.done[sale] && s.Many <= b.behind(w.done)[s.From] && then.day <= s.Days.Hi
	return then, can
}

// next are the sales that can be the next ones, each with the way that it leads
// to.
func (b Batch) next(w way) iter.Seq2[int, way] {
	return func(yield func(sale int, then way) bool) {
		for sale := range b.Sales {
			if then, can := b.then(w, sale); can && !yield(sale, then) {
				return
			}
		}
	}
}

// isTruth takes each sale as the next one, in the order, on its day.
func (b Batch) isTruth(order, days []int) bool {
	if len(order) != len(b.Sales) || len(days) != len(b.Sales) || !lists.All(order, b.hasSale) {
		return false
	}
	w := way{}
	for _, sale := range order {
		then, can := b.then(w, sale)
		if !can || days[sale] < then.day || days[sale] > b.Sales[sale].Days.Hi {
			return false
		}
		w = way{done: then.done, day: days[sale]}
	}
	return true
}
