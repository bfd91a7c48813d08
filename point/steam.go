package point

import "iter"

func pressuresOf(table []Step) Range {
	return Range{Lo: table[0].Pressure, Hi: table[len(table)-1].Pressure}
}

// around are the steps between which the pressure lies: one pair of them, or two
// pairs if it is the pressure of a step between others.
func around(table []Step, pressure int) iter.Seq2[Step, Step] {
	return func(yield func(lower, upper Step) bool) {
		for i := 1; i < len(table); i++ {
			between := pressuresOf(table[i-1 : i+1])
			if between.has(pressure) && !yield(table[i-1], table[i]) {
				return
			}
		}
	}
}

// steamAt is the table's height at one of its pressures. If two pairs of steps
// are around it, both tell the same.
func steamAt(table []Step, pressure int) int {
	height := 0
	for lower, upper := range around(table, pressure) {
		way := quotient{
			above: (upper.Height - lower.Height) * (pressure - lower.Pressure),
			below: upper.Pressure - lower.Pressure,
		}
		height = lower.Height + way.down()
	}
	return height
}
