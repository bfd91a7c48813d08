package bore

import "slices"

func numbersBelow(end int) []int {
	list := make([]int, 0, end)
	for n := 0; n < end; n++ {
		list = append(list, n)
	}
	return list
}

func without(list []int, at int) []int {
	return slices.Concat(list[:at], list[at+1:])
}
