package bath

import (
	"slices"

	"meniscus/api"
	"meniscus/lists"
)

// steps are those by which all instruments are known.
type steps [api.MaxBathInstruments]int

// far are more steps than lead from one instrument to any other one.
const far = api.MaxBathInstruments

// unplanned is how all are known without dips.
func unplanned() steps {
	var k steps
	for instrument := range k {
		k[instrument] = far
	}
	k[0] = 0
	return k
}

// with is how all are known with the dip, too.
func (k steps) with(d Dip) steps {
	least := far
	for _, instrument := range d.Instruments {
		least = lists.Least(least, k[instrument])
	}
	for _, instrument := range d.Instruments {
		k[instrument] = lists.Least(k[instrument], least+1)
	}
	return k
}

func (k steps) list(w Works) []int {
	list := slices.Clone(k[:len(w.Ranges)])
	for instrument, many := range list {
		if many == far {
			list[instrument] = None
		}
	}
	return list
}

// knownBy goes through the plan until no dip leads any further.
func (w Works) knownBy(plan []Dip) steps {
	k := unplanned()
	for {
		next := k
		for _, d := range plan {
			next = next.with(d)
		}
		if next == k {
			return k
		}
		k = next
	}
}

func (w Works) isRight(k steps) bool {
	return lists.Greatest(0, k[:len(w.Ranges)]...) <= w.Steps
}

// dips have each all that can be in one of them together, at the least heat.
func (w Works) dips() []Dip {
	var list []Dip
	for set := range 1 << len(w.Ranges) {
		var d Dip
		for instrument, r := range w.Ranges {
			if set>>instrument&1 == 1 {
				d.Instruments = append(d.Instruments, instrument)
				d.Heat = lists.Greatest(d.Heat, r.Lo)
			}
		}
		if w.allows(d) {
			list = append(list, d)
		}
	}
	return list
}

// plan looks first at all that is known by fewer dips. It need not look at dips
// ahead of those that lead to them.
func (w Works) plan() ([]Dip, bool) {
	dips, known := w.dips(), unplanned()
	plans := map[steps][]Dip{known: nil}
	next := []steps{known}
search:
	for !w.isRight(known) {
		if len(next) == 0 {
			return nil, false
		}
		from := next[0]
		next = next[1:]
		for _, d := range dips {
			known = from.with(d)
			if _, seen := plans[known]; seen {
				continue
			}
			plans[known] = append(slices.Clone(plans[from]), d)
			if w.isRight(known) {
				break search
			}
			next = append(next, known)
		}
	}
	return plans[known], true
}
