package stem

import (
	"meniscus/api"
	"meniscus/glass"
	"meniscus/lists"
)

func has(r glass.Range, number int) bool { return r.Lo <= number && number <= r.Hi }

func liesIn(r glass.Range, lo, hi int) bool { return lo <= r.Lo && r.Lo <= r.Hi && r.Hi <= hi }

func upTo(most int) glass.Range { return glass.Range{Hi: most} }

// around has all numbers that are at most so far from 0.
func around(most int) glass.Range { return glass.Range{Lo: -most, Hi: most} }

// valid reports whether a tube, whose glass is valid, is valid otherwise.
func (t Tube) valid() bool {
	return liesIn(t.K, 0, api.MaxStemK) && liesIn(t.Lag, 0, api.MaxStemLag) &&
		liesIn(t.Squeeze, 0, api.MaxStemSqueeze) && has(upTo(api.MaxStemTerm), t.Term)
}

// valid reports whether the reading is as described, and of one of so many days.
func (r Reading) valid(days int) bool {
	return has(upTo(days-1), r.Day) && has(around(api.MaxStemShown), r.Shown) &&
		has(upTo(api.MaxStemError), r.Error) && has(upTo(api.MaxStemBare), r.Bare) &&
		liesIn(r.Air, -api.MaxStemAir, api.MaxStemAir) &&
		liesIn(r.Rate, -api.MaxStemRate, api.MaxStemRate) && has(upTo(api.MaxStemDeep), r.Deep)
}

func (r Reading) isWhole() bool { return !r.Broken }

func (r Reading) isOfDay(other Reading) bool { return r.Day == other.Day }

// allows reports whether the truth is one of the reading, whether its Zero can
// be on the day or not.
func (w atWork) allows(x Truth) bool {
	return has(w.K, x.K) && has(w.Lag, x.Lag) && has(w.Squeeze, x.Squeeze) &&
		has(w.Air, x.Air) && has(w.Rate, x.Rate) && has(around(w.Error), x.Off) &&
		has(around(api.MaxGlassZero), x.Zero)
}

// readUndated checks the tube and the reading, for calls without a history.
func readUndated(t Tube, r Reading) (atWork, api.Errno) {
	if e := CheckTube(t); e != api.OK {
		return atWork{}, e
	}
	if !r.valid(api.MaxGlassDays) {
		return atWork{}, api.ErrRange
	}
	return atWork{Tube: t, Reading: r}, api.OK
}

// dated is a tube with a history. It has no zeros if the ices do not agree,
// which is asked behind all that is wrong with a reading itself.
type dated struct {
	Tube
	ices  []glass.Ice
	days  int
	zeros []glass.Range
}

// date checks the tube, the history and the ices, and puts them together.
func date(t Tube, history []glass.Range, ices []glass.Ice) (dated, api.Errno) {
	if e := CheckTube(t); e != api.OK {
		return dated{}, e
	}
	zeros, e := glass.Zeros(t.Glass, history, ices)
	if e != api.OK && e != api.ErrFail {
		return dated{}, e
	}
	return dated{Tube: t, ices: ices, days: len(history), zeros: zeros}, api.OK
}

func (d dated) allows(r Reading) bool { return r.valid(d.days) }

// isFresh reports whether the reading is not stale. Without an ice the day 0
// counts, as with one on it.
func (d dated) isFresh(r Reading) bool {
	last := 0
	for _, i := range d.ices {
		if i.Day <= r.Day {
			last = lists.Greatest(last, i.Day)
		}
	}
	return r.Day-last <= d.Term
}

// zeroFor returns the zeros of the day of these readings, all of one day, or
// tells why they are refused.
func (d dated) zeroFor(l ...Reading) (glass.Range, api.Errno) {
	if !lists.All(l, Reading.isWhole) {
		return glass.Range{}, api.ErrState
	}
	if !lists.All(l, d.isFresh) {
		return glass.Range{}, api.ErrStale
	}
	if len(d.zeros) == 0 {
		return glass.Range{}, api.ErrFail
	}
	return d.zeros[l[0].Day], api.OK
}

// ask checks all arguments of a call that asks how sure a reading is.
func ask(t Tube, history []glass.Range, ices []glass.Ice, r Reading, most int) (asked, api.Errno) {
	d, e := date(t, history, ices)
	if e != api.OK {
		return asked{}, e
	}
	if !d.allows(r) || most < 0 {
		return asked{}, api.ErrRange
	}
	zero, e := d.zeroFor(r)
	if e != api.OK {
		return asked{}, e
	}
	return asked{atWork: atWork{Tube: t, Reading: r}, zero: zero, most: most}, api.OK
}
