package recall

import (
	"slices"

	"meniscus/lists"
)

func (b Batch) without(sales []int) Batch {
	fewer := Batch{Owners: b.Owners, Total: b.Total}
	for number, s := range b.Sales {
		if !slices.Contains(sales, number) {
			fewer.Sales = append(fewer.Sales, s)
		}
	}
	return fewer
}

// fewest always finds some: without all sales nothing contradicts itself.
func (b Batch) fewest() []int {
	var fewest []int
search:
	for sales := range lists.Choices(len(b.Sales)) {
		if _, hasTruth := sell(b.without(sales)); hasTruth {
			fewest = sales
			break search
		}
	}
	return fewest
}
