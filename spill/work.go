package spill

import (
	"iter"

	"meniscus/api"
	"meniscus/lists"
)

// mostStock is what a room can have at most: its first grams, and those of all
// moves.
const mostStock = api.MaxSpillGrams * (1 + api.MaxSpillMoves)

// atWork is a works with the grams of one truth, if there is one: firsts, moves
// and vapour, and stocks that go from day to day, are all in pipes.
type atWork struct {
	Works
	pipes  []*pipe
	at     map[place][]*pipe
	stocks map[place]*pipe
}

// lay lays a pipe without grams.
func (a *atWork) lay(from, to place, grams Range) *pipe {
	p := &pipe{Range: grams, from: from, to: to}
	a.pipes = append(a.pipes, p)
	a.at[from] = append(a.at[from], p)
	a.at[to] = append(a.at[to], p)
	return p
}

// where is outside as well for what a room has behind the last day.
func (w Works) where(room, day int) place {
	if room == Outside || day == w.Days {
		return outside()
	}
	return place{room, day}
}

func layAll(w Works, left leftOut) *atWork {
	a := &atWork{Works: w, at: map[place][]*pipe{}, stocks: map[place]*pipe{}}
	for number, r := range w.Rooms {
		a.lay(outside(), w.where(number, 0), r.First)
		for day := range w.Days {
			here := w.where(number, day)
			a.lay(here, outside(), r.Vapour)
			a.stocks[here] = a.lay(here, w.where(number, day+1), w.weighed(here, left))
		}
	}
	for _, m := range w.Moves {
		a.lay(w.where(m.From, m.Day), w.where(m.To, m.Day), m.Grams)
	}
	return a
}

// ways are all by which a gram can go on from the place, though not through the
// pipe, each with the place that it leads to.
func (a *atWork) ways(from place, without *pipe) iter.Seq2[way, place] {
	return func(yield func(w way, to place) bool) {
		for _, p := range a.at[from] {
			w := way{p, most()}
			if p.to == from {
				w = way{p, least()}
			}
			if _, to := w.ends(); p != without && w.free() > 0 && !yield(w, to) {
				return
			}
		}
	}
}

// push sends as many grams this way as can come round to where it begins, and
// returns how many its pipe has then.
func (a *atWork) push(w way) int {
	from, to := w.ends()
	others := func(at place) iter.Seq2[way, place] { return a.ways(at, w.pipe) }
	for w.free() > 0 {
		back, found := shortest(to, from, others)
		if !found {
			break
		}
		send(append(back, w))
	}
	return w.grams
}

// canBe reports whether the pipe can have as many grams as it must have, and gives
// it at least as many. No other pipe gets too many, or too few, by that.
func (a *atWork) canBe(p *pipe) bool {
	return p.grams >= p.Lo || a.push(way{p, most()}) >= p.Lo
}

// settle reports as well whether all weighings agree that are not left out.
func settle(w Works, left leftOut) (*atWork, bool) {
	a := layAll(w, left)
	return a, lists.All(a.pipes, a.canBe)
}

// open settles the works for a call that has an error if what it asks for is not
// in range.
func open(w Works, inRange bool) (*atWork, api.Errno) {
	if e := w.check(); e != api.OK {
		return nil, e
	}
	if !inRange {
		return nil, api.ErrRange
	}
	a, agree := settle(w, leftOut{})
	if !agree {
		return nil, api.ErrFail
	}
	return a, api.OK
}

func (a *atWork) stock(at place) Range {
	p := a.stocks[at]
	low := a.push(way{p, least()})
	high := a.push(way{p, most()})
	return Range{Lo: low, Hi: high}
}

func (a *atWork) allStocks() [][]Range {
	stocks := make([][]Range, len(a.Rooms))
	for room := range stocks {
		for day := range a.Days {
			stocks[room] = append(stocks[room], a.stock(place{room, day}))
		}
	}
	return stocks
}

func (a *atWork) missing(b Book, at place) Range {
	says, stock := a.says(b, at.room, at.day), a.stock(at)
	return Range{Lo: says - stock.Hi, Hi: says - stock.Lo}
}

// lost is where something is surely missing first, if it is anywhere.
func (a *atWork) lost(b Book) (where place, isLost bool) {
days:
	for day := range a.Days {
		for room := range a.Rooms {
			where = place{room, day}
			if isLost = a.missing(b, where).Lo > 0; isLost {
				break days
			}
		}
	}
	return where, isLost
}
