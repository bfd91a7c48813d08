package glass

import "meniscus/api"

// leftOut says of each ice whether it is left out.
type leftOut [api.MaxGlassIces]bool

func only(ice int) leftOut {
	var l leftOut
	l[ice] = true
	return l
}

// bits has the bit of each ice that is left out.
func (l leftOut) bits() int {
	bits := 0
	for ice, out := range l {
		if out {
			bits |= 1 << ice
		}
	}
	return bits
}

// numbers are those of the ices that are left out.
func (l leftOut) numbers() []int {
	var list []int
	for ice, out := range l {
		if out {
			list = append(list, ice)
		}
	}
	return list
}

// wordBits is how many lists of ices one word of outs tells of.
const wordBits = 64

// outs has for each list of ices, by its bits, whether there is a truth in which
// these ices are false, and no others.
type outs [1 << api.MaxGlassIces / wordBits]uint64

func noneOut() outs {
	var o outs
	o.add(0)
	return o
}

func (o *outs) add(bits int) { o[bits/wordBits] |= 1 << (bits % wordBits) }

func (o outs) hasBits(bits int) bool { return o[bits/wordBits]>>(bits%wordBits)&1 == 1 }

func (o outs) has(l leftOut) bool { return o.hasBits(l.bits()) }

// or has the lists of both.
func (o outs) or(others outs) outs {
	for i := range o {
		o[i] |= others[i]
	}
	return o
}

// with has each of the lists with these ices more.
func (o outs) with(more leftOut) outs {
	if more == (leftOut{}) {
		return o
	}
	var all outs
	for bits := range 1 << api.MaxGlassIces {
		if o.hasBits(bits) {
			all.add(bits | more.bits())
		}
	}
	return all
}

// falseOn are the ices of the day that are false if this is its zero.
func (h readHistory) falseOn(day, zero int) leftOut {
	var l leftOut
	for ice, i := range h.ices {
		l[ice] = i.Day == day && !i.told(zero)
	}
	return l
}

// canBeFalse has the lists of ices that are false in some truth.
func (h readHistory) canBeFalse() outs {
	walked := h.walk()
	var all outs
	for _, o := range walked[len(walked)-1] {
		all = all.or(o)
	}
	return all
}

// fewest looks for the fewest ices that can be left out, none of which is before
// the first one, and reports whether there are such. It asks of each ice first
// whether it is left out, so that of the lists of one length the least one is
// found first.
func (o outs) fewest(first, end int) (leftOut, bool) {
	var l leftOut
	var search func(ice, left int) bool
	search = func(ice, left int) bool {
		if ice == end {
			return left == 0 && o.has(l)
		}
		if left > 0 {
			l[ice] = true
			if search(ice+1, left-1) {
				return true
			}
			l[ice] = false
		}
		return search(ice+1, left)
	}
	for many := 0; many <= end-first; many++ {
		if search(first, many) {
			return l, true
		}
	}
	return leftOut{}, false
}

// alone are the ices that need not be believed alone, though all do not agree.
func (o outs) alone(end int) []int {
	if o.has(leftOut{}) {
		return nil
	}
	var list []int
	for ice := range end {
		if o.has(only(ice)) {
			list = append(list, ice)
		}
	}
	return list
}
