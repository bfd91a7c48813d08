// Package gaps keeps how far things are apart, at most, whose places are not
// known.
package gaps

// MaxThings is how many things there may be.
const MaxThings = 13

// Gaps has in Most, for the things i and j, how much greater j can be than i,
// at most. No way over other things says more than Most says of two at once, so
// each of these numbers is reached.
type Gaps struct {
	Things int
	Most   [MaxThings][MaxThings]int
}

// Lowest returns by how much, at least, the thing is greater than the first one.
func (g *Gaps) Lowest(thing int) int { return -g.Most[thing][0] }

// Highest returns by how much, at most, the thing is greater than the first one.
func (g *Gaps) Highest(thing int) int { return g.Most[0][thing] }

// Can reports whether the thing to can be at most so much greater than from.
func (g *Gaps) Can(from, to, most int) bool { return most+g.Most[to][from] >= 0 }

// Limit notes that the thing to is at most so much greater than from, or reports
// that it cannot be. It may write where it reads: the ways to from, and from to,
// are not made shorter by a way over both.
func (g *Gaps) Limit(from, to, most int) bool {
	if !g.Can(from, to, most) {
		return false
	}
	for i := range g.Things {
		over := g.Most[i][from] + most
		if over >= g.Most[i][to] {
			continue
		}
		for j := range g.Things {
			if way := over + g.Most[to][j]; way < g.Most[i][j] {
				g.Most[i][j] = way
			}
		}
	}
	return true
}
