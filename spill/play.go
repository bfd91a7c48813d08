package spill

import "meniscus/lists"

// says is what the book says of the room at the end of the day.
func (w Works) says(b Book, room, day int) int {
	grams := b.Firsts[room]
	for number, m := range w.Moves {
		switch {
		case m.Day > day:
		case m.To == room:
			grams += b.Grams[number]
		case m.From == room:
			grams -= b.Grams[number]
		}
	}
	return grams
}

// play has the stocks of the truth: each is what a book of it would say, less all
// vapour.
func (w Works) play(t Truth) [][]int {
	book := Book{Firsts: t.Firsts, Grams: t.Grams}
	stocks := make([][]int, len(w.Rooms))
	for room := range stocks {
		for day := range w.Days {
			vapour := lists.Sum(t.Vapours[room][:day+1]...)
			stocks[room] = append(stocks[room], w.says(book, room, day)-vapour)
		}
	}
	return stocks
}

func canBe(stocks [][]int) bool {
	isStock := func(grams int) bool { return grams >= 0 }
	return lists.All(stocks, func(days []int) bool { return lists.All(days, isStock) })
}

func (w Works) agrees(stocks [][]int) bool {
	return lists.All(w.Weighings, func(x Weighing) bool { return x.Grams.has(stocks[x.Room][x.Day]) })
}
