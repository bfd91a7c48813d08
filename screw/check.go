package screw

import (
	"meniscus/api"
	"meniscus/lists"
)

func (r Range) has(number int) bool { return r.Lo <= number && number <= r.Hi }

func (r Range) low() int { return r.Lo }

func (r Range) high() int { return r.Hi }

// isError reports whether r is a range of errors that a screw can have.
func isError(r Range) bool {
	return -api.MaxScrewError <= r.Lo && r.Lo <= r.Hi && r.Hi <= api.MaxScrewError
}

// isPlace is asked of bounds as well: they go as far as places do.
func isPlace(number int) bool { return 0 <= number && number <= api.MaxScrewPlace }

func (z Zone) valid() bool {
	return 0 <= z.From && z.From <= api.MaxScrewTicks && isError(z.Wear)
}

func (z Zone) mayPrecede(next Zone) bool { return z.From < next.From }

// valid reports whether a screw with no more phases and zones than there may be
// is valid.
func (s Screw) valid() bool {
	return 1 <= s.Step && s.Step <= api.MaxScrewStep && 1 <= s.Ticks && s.Ticks <= api.MaxScrewTicks &&
		s.phasesValid() && s.zonesValid() && s.goesOn()
}

func (s Screw) phasesValid() bool { return len(s.Phases) > 0 && lists.All(s.Phases, isError) }

func (s Screw) zonesValid() bool {
	return len(s.Zones) > 0 && s.Zones[0].From == 0 &&
		lists.All(s.Zones, Zone.valid) && lists.InOrder(s.Zones, Zone.mayPrecede)
}

// goesOn asks of each phase and each zone, also of those that do not meet.
func (s Screw) goesOn() bool {
	t := lowEnds().truth(s)
	phase := lists.Least(t.Phases[0], t.Phases[1:]...)
	wear := lists.Least(t.Wears[0], t.Wears[1:]...)
	return s.Step+phase+wear >= 1
}

func (s Screw) hasTick(tick int) bool { return 0 <= tick && tick <= s.Ticks }

// allows reports whether the truth is one of the screw.
func (s Screw) allows(t Truth) bool {
	if len(t.Phases) != len(s.Phases) || len(t.Wears) != len(s.Zones) {
		return false
	}
	for phase, r := range s.Phases {
		if !r.has(t.Phases[phase]) {
			return false
		}
	}
	for zone, z := range s.Zones {
		if !z.Wear.has(t.Wears[zone]) {
			return false
		}
	}
	return true
}

func checkTick(s Screw, tick int) api.Errno {
	if e := CheckScrew(s); e != api.OK {
		return e
	}
	if !s.hasTick(tick) {
		return api.ErrRange
	}
	return api.OK
}

func checkScale(s Screw, scale []int) api.Errno {
	if e := CheckScrew(s); e != api.OK {
		return e
	}
	if len(scale) > api.MaxScrewLines {
		return api.ErrLimit
	}
	if len(scale) == 0 || !lists.All(scale, isPlace) || !lists.Rises(scale) {
		return api.ErrRange
	}
	return api.OK
}

// checkCutting checks the screw, the scale and the cutting, in this order.
func checkCutting(s Screw, scale, cutting []int) api.Errno {
	if e := checkScale(s, scale); e != api.OK {
		return e
	}
	if len(cutting) != len(scale) || !lists.All(cutting, s.hasTick) || !lists.Rises(cutting) {
		return api.ErrRange
	}
	return api.OK
}
