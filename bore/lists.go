package bore

import "slices"

func all[T any](list []T, holds func(T) bool) bool {
	for _, x := range list {
		if !holds(x) {
			return false
		}
	}
	return true
}

func least(first int, others ...int) int {
	for _, n := range others {
		if n < first {
			first = n
		}
	}
	return first
}

func greatest(first int, others ...int) int {
	for _, n := range others {
		if n > first {
			first = n
		}
	}
	return first
}

func rises(list []int) bool {
	for i := 1; i < len(list); i++ {
		if list[i] <= list[i-1] {
			return false
		}
	}
	return true
}

func numbersBelow(end int) []int {
	list := make([]int, 0, end)
	for n := 0; n < end; n++ {
		list = append(list, n)
	}
	return list
}

func without(list []int, at int) []int {
	return slices.Concat(list[:at], list[at+1:])
}
