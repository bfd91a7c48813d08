package point

import (
	"meniscus/api"
	"meniscus/lists"
)

// whole is the height of steam, in thousandths, on a scale that is right.
const whole = 1000

// upright is a scale on which steam stands above ice: if it does not, all
// degrees have the other sign.
type upright struct {
	Scale
	turned bool
}

func (s Scale) upright() upright {
	if s.Ice < s.Steam {
		return upright{Scale: s}
	}
	return upright{Scale: Scale{Ice: -s.Ice, Steam: -s.Steam}, turned: true}
}

// turn takes readings on the scale as it was to those on the upright one, and
// back again.
func (u upright) turn(readings Range) Range {
	if u.turned {
		return Range{Lo: -readings.Hi, Hi: -readings.Lo}
	}
	return readings
}

func (u upright) degrees() int { return u.Steam - u.Ice }

// halves are how many half degrees above ice the points are that the readings,
// on the scale as it was, allow: all that lie between both ends.
func (u upright) halves(readings Range) Range {
	r := u.turn(readings)
	return Range{Lo: 2*(r.Lo-u.Ice) - 1, Hi: 2*(r.Hi-u.Ice) + 1}
}

// height is that of a point at so many half degrees above ice.
func (u upright) height(halves int) quotient {
	return quotient{above: halves, below: 2 * u.degrees()}
}

// trueHeights are the thousandths of the points that the readings allow, where
// steam was at one of these heights, in thousandths, when the scale was set.
// Below ice a point is the lower the higher steam was.
func (s Scale) trueHeights(steam, readings Range) Range {
	u := s.upright()
	h := u.halves(readings)
	least := lists.Least(h.Lo*steam.Lo, h.Lo*steam.Hi)
	greatest := lists.Greatest(h.Hi*steam.Lo, h.Hi*steam.Hi)
	return outward().of(u.height(least), u.height(greatest))
}

// standOn are all readings that can stand on the other scale for these. What
// stands there is within a half degree of a point of the same height.
func (s Scale) standOn(other Scale, readings Range) Range {
	from, to := s.upright(), other.upright()
	h := from.halves(readings)
	low := quotient{above: h.Lo*to.degrees() - from.degrees(), below: 2 * from.degrees()}
	high := quotient{above: h.Hi*to.degrees() + from.degrees(), below: 2 * from.degrees()}
	r := inward().of(low, high)
	return to.turn(Range{Lo: to.Ice + r.Lo, Hi: to.Ice + r.Hi})
}

// through passes the readings from each scale to the one behind it.
func through(l []Scale, readings Range) (Range, api.Errno) {
	var pass func(number int, readings Range) (Range, api.Errno)
	pass = func(number int, readings Range) (Range, api.Errno) {
		if number == len(l)-1 {
			return readings, api.OK
		}
		next := l[number].standOn(l[number+1], readings)
		if !next.liesIn(boundsOfReadings()) {
			return Range{}, api.ErrBound
		}
		return pass(number+1, next)
	}
	return pass(0, readings)
}
