package bath

import (
	"meniscus/api"
	"meniscus/lists"
)

// alone are the instruments without whose readings a series that contradicts
// itself does not.
func (s Series) alone() []int {
	var list []int
	for instrument := range s.Offsets {
		ofOthers := func(r Reading) bool { return r.Instrument != instrument }
		if _, ok := compare(s, ofOthers); ok {
			list = append(list, instrument)
		}
	}
	return list
}

// leftOut is what matters of readings that are left out, to the baths from one
// on: how many more may be, and how far instruments can be apart by those that
// are believed.
type leftOut struct {
	bath, more int
	apart      [1 + api.MaxBathInstruments][1 + api.MaxBathInstruments]int
}

func (c *compared) leftOut(bath, more int) leftOut {
	l := leftOut{bath: bath, more: more}
	for from := range len(c.Offsets) + 1 {
		copy(l.apart[from][:], c.Most[from][:len(c.Offsets)+1])
	}
	return l
}

// fewest asks of each reading first whether it is left out, so that of the lists
// of one length the least one is found first.
func (s Series) fewest() []Place {
	var places []Place
	contradicts := map[leftOut]bool{}
	var search func(c compared, at Place, more int) bool
	search = func(c compared, at Place, more int) bool {
		if at.Bath == len(s.Baths) {
			return true
		}
		if at.Read == len(s.Baths[at.Bath].Reads) {
			next := Place{Bath: at.Bath + 1}
			key := c.leftOut(next.Bath, more)
			if contradicts[key] {
				return false
			}
			contradicts[key] = !search(c, next, more)
			return !contradicts[key]
		}
		if c.mustLeave(at) > more {
			return false
		}
		next := Place{Bath: at.Bath, Read: at.Read + 1}
		if more > 0 {
			places = append(places, at)
			if search(c, next, more-1) {
				return true
			}
			places = places[:len(places)-1]
		}
		return c.believe(at.Bath, s.Baths[at.Bath].Reads[at.Read]) && search(c, next, more)
	}
	for many := 0; !search(unread(s), Place{}, many); {
		many++
	}
	return places
}

// mustLeave is how many readings from the place on have to be left out, at
// least.
func (c *compared) mustLeave(at Place) int {
	many := 0
	for bath := at.Bath; bath < len(c.Baths); bath++ {
		reads := c.Baths[bath].Reads[at.Read:]
		many += len(reads) - c.together(bath, reads)
		at.Read = 0
	}
	return many
}

// together is how many of the readings of a bath can be right together, as far
// as each two of them tell.
func (c *compared) together(bath int, reads []Reading) int {
	if len(reads) == 0 {
		return 0
	}
	first, others := reads[0], reads[1:]
	if !c.canBelieve(bath, first) {
		return c.together(bath, others)
	}
	var agreeing []Reading
	for _, r := range others {
		if c.canAgree(first, r) {
			agreeing = append(agreeing, r)
		}
	}
	most := 1 + c.together(bath, agreeing)
	if len(agreeing) < len(others) {
		most = lists.Greatest(most, c.together(bath, others))
	}
	return most
}
