package recall

import (
	"meniscus/api"
	"meniscus/lists"
)

func isDay(number int) bool { return 0 <= number && number <= api.MaxRecallDay }

func (r Range) areDays() bool { return isDay(r.Lo) && isDay(r.Hi) && r.Lo <= r.Hi }

func (b Batch) hasOwner(number int) bool { return 0 <= number && number < b.Owners }

func (b Batch) hasSale(number int) bool { return 0 <= number && number < len(b.Sales) }

// allows reports whether the sale is one between owners of the batch, whatever
// they have.
func (b Batch) allows(s Sale) bool {
	return b.hasOwner(s.From) && b.hasOwner(s.To) && s.From != s.To &&
		1 <= s.Many && s.Many <= api.MaxRecallTotal && s.Days.areDays()
}

func (b Batch) check() api.Errno {
	if len(b.Sales) > api.MaxRecallSales {
		return api.ErrLimit
	}
	if b.Owners < 1 || b.Owners > api.MaxRecallOwners || b.Total < 0 || b.Total > api.MaxRecallTotal || !lists.All(b.Sales, b.allows) {
		return api.ErrArg
	}
	return api.OK
}
