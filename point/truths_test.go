package point_test

import (
	"math/big"
	"math/rand/v2"

	"meniscus/api"
	"meniscus/point"
)

// This file has what the chapter defines, word by word, with numbers that need
// not be whole, for the properties to be held against.

// dice give the same numbers in each run.
type dice struct{ *rand.Rand }

func newDice(seed uint64) dice { return dice{rand.New(rand.NewPCG(seed, 3))} }

func (d dice) from(lo, hi int) int { return lo + d.IntN(hi-lo+1) }

// far is a number from -most to most; small ones are as frequent as large ones.
func (d dice) far(most int) int {
	for d.IntN(3) > 0 && most > 3 {
		most /= 5
	}
	return d.from(-most, most)
}

// part is a range with ends from -most to most.
func (d dice) part(most int) point.Range {
	lo := d.far(most)
	if d.IntN(3) == 0 {
		return to(lo, lo)
	}
	return to(lo, d.from(lo, min(most, lo+d.from(0, 1+most/5))))
}

func (d dice) scale() point.Scale {
	ice, steam := d.far(api.MaxPointDegree), d.far(api.MaxPointDegree)
	if ice == steam {
		return d.scale()
	}
	return scale(ice, steam)
}

func (d dice) scales(many int) []point.Scale {
	var l []point.Scale
	for range many {
		l = append(l, d.scale())
	}
	return l
}

func (d dice) readings() point.Range { return d.part(api.MaxPointReading) }

// table has steps one of which is at 1000 thousandths.
func (d dice) table() []point.Step {
	below, above := d.IntN(4), d.from(1, 4)
	pressure := 1 + d.IntN(500)
	list := []point.Step{{Pressure: pressure, Height: 1000}}
	for range above {
		last := list[len(list)-1]
		list = append(list, point.Step{Pressure: last.Pressure + d.from(1, 300), Height: last.Height + d.from(1, 200)})
	}
	for range below {
		first := list[0]
		if first.Pressure < 2 {
			break
		}
		step := point.Step{Pressure: d.from(1, first.Pressure-1), Height: first.Height - d.from(1, 200)}
		list = append([]point.Step{step}, list...)
	}
	return list
}

// pressures are some of the table's.
func (d dice) pressures(table []point.Step) point.Range {
	lo := d.from(table[0].Pressure, table[len(table)-1].Pressure)
	return to(lo, d.from(lo, table[len(table)-1].Pressure))
}

// diary has entries most of which one of the scales explains, or nearly so.
func (d dice) diary(l []point.Scale, many int) []point.Entry {
	var diary []point.Entry
	for range many {
		s := l[d.IntN(len(l))]
		reads := s.Ice + d.far(2000)
		lowest, highest := heights(s, to(reads, reads))
		known := to(floor(lowest)+d.from(-1, 3), ceil(highest)+d.from(-3, 1))
		switch d.IntN(3) {
		case 0:
			known.Hi = known.Lo + d.IntN(3)
		case 1:
			known.Lo = known.Hi - d.IntN(3)
		}
		e := entry(reads, max(min(known.Lo, known.Hi), -api.MaxPointHeight), min(max(known.Lo, known.Hi), api.MaxPointHeight))
		if e.Known.Lo <= e.Known.Hi {
			diary = append(diary, e)
		}
	}
	return diary
}

// point is one that the readings allow: an end, or any other one.
func (d dice) point(readings point.Range) *big.Rat {
	lowest, highest := allowed(readings)
	way := big.NewRat(int64(d.IntN(5)), 4)
	if d.IntN(2) == 0 {
		way = big.NewRat(int64(d.IntN(10007)), 10007)
	}
	way.Mul(way, minus(highest, lowest))
	return way.Add(way, lowest)
}

func rat(n int) *big.Rat { return big.NewRat(int64(n), 1) }

func minus(a, b *big.Rat) *big.Rat { return new(big.Rat).Sub(a, b) }

func times(a, b *big.Rat) *big.Rat { return new(big.Rat).Mul(a, b) }

func by(a, b *big.Rat) *big.Rat { return new(big.Rat).Quo(a, b) }

func floor(a *big.Rat) int {
	n := new(big.Int)
	n.Div(a.Num(), a.Denom())
	return int(n.Int64())
}

func ceil(a *big.Rat) int { return -floor(new(big.Rat).Neg(a)) }

func inOrder(list ...*big.Rat) bool {
	for i := 1; i < len(list); i++ {
		if list[i-1].Cmp(list[i]) > 0 {
			return false
		}
	}
	return true
}

// allowed are the lowest and the highest degree that the readings allow.
func allowed(readings point.Range) (lowest, highest *big.Rat) {
	half := big.NewRat(1, 2)
	return minus(rat(readings.Lo), half), new(big.Rat).Add(rat(readings.Hi), half)
}

// heightOf is the height of the point at x degrees.
func heightOf(s point.Scale, x *big.Rat) *big.Rat {
	return by(minus(x, rat(s.Ice)), rat(s.Steam-s.Ice))
}

func degreesOf(s point.Scale, height *big.Rat) *big.Rat {
	x := times(height, rat(s.Steam-s.Ice))
	return x.Add(x, rat(s.Ice))
}

func sorted(list ...*big.Rat) (least, greatest *big.Rat) {
	least, greatest = list[0], list[0]
	for _, n := range list {
		if n.Cmp(least) < 0 {
			least = n
		}
		if n.Cmp(greatest) > 0 {
			greatest = n
		}
	}
	return least, greatest
}

// heights are the least and the greatest one of the points that the readings
// allow, in thousandths.
func heights(s point.Scale, readings point.Range) (least, greatest *big.Rat) {
	lowest, highest := allowed(readings)
	thousand := rat(1000)
	return sorted(times(thousand, heightOf(s, lowest)), times(thousand, heightOf(s, highest)))
}

func thousandths(list ...*big.Rat) point.Range {
	least, greatest := sorted(list...)
	return to(floor(least), ceil(greatest))
}

// canStand reports whether the reading and the readings allow some points of the
// same height.
func canStand(from, on point.Scale, readings point.Range, reading int) bool {
	a, b := heights(from, readings)
	c, d := heights(on, to(reading, reading))
	return inOrder(a, d) && inOrder(c, b)
}

// steamAt goes up from the lower one of the steps between which the pressure is.
func steamAt(table []point.Step, pressure int) int {
	i := 0
	for table[i+1].Pressure < pressure {
		i++
	}
	lower, upper := table[i], table[i+1]
	way := by(rat(pressure-lower.Pressure), rat(upper.Pressure-lower.Pressure))
	return lower.Height + floor(times(way, rat(upper.Height-lower.Height)))
}

// trueHeights are those of all points that the readings allow, if steam was at
// this height: the least and the greatest one, in thousandths.
func trueHeights(s point.Scale, steam int, readings point.Range) (least, greatest *big.Rat) {
	least, greatest = heights(s, readings)
	part := big.NewRat(int64(steam), 1000)
	return times(least, part), times(greatest, part)
}

func explains(s point.Scale, e point.Entry) bool {
	least, greatest := heights(s, to(e.Reads, e.Reads))
	return inOrder(least, rat(e.Known.Hi)) && inOrder(rat(e.Known.Lo), greatest)
}

func wrongFor(s point.Scale, diary []point.Entry) []int {
	var list []int
	for number, e := range diary {
		if !explains(s, e) {
			list = append(list, number)
		}
	}
	return list
}
