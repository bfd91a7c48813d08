// Package lists has the small functions on lists that several layers use.
package lists

import (
	"iter"
	"slices"
)

// All reports whether each element of the list holds.
func All[T any](list []T, holds func(T) bool) bool {
	for _, x := range list {
		if !holds(x) {
			return false
		}
	}
	return true
}

// InOrder reports whether each element of the list may come right ahead of the
// one behind it.
func InOrder[T any](list []T, mayPrecede func(element, next T) bool) bool {
	for i := 1; i < len(list); i++ {
		if !mayPrecede(list[i-1], list[i]) {
			return false
		}
	}
	return true
}

// Rises reports whether each number is greater than the one before it.
func Rises(numbers []int) bool {
	return InOrder(numbers, func(number, next int) bool { return number < next })
}

// Least returns the least of the numbers.
func Least(first int, others ...int) int {
	for _, n := range others {
		if n < first {
			first = n
		}
	}
	return first
}

// Greatest returns the greatest of the numbers.
func Greatest(first int, others ...int) int {
	for _, n := range others {
		if n > first {
			first = n
		}
	}
	return first
}

// Sum returns the sum of the numbers.
func Sum(numbers ...int) int {
	sum := 0
	for _, n := range numbers {
		sum += n
	}
	return sum
}

// Choices are all rising lists of numbers from 0 on that are below the end: the
// shorter ones first, of one length the lesser ones first.
func Choices(end int) iter.Seq[[]int] {
	return func(yield func(numbers []int) bool) {
		var choose func(chosen []int, first, more int) bool
		choose = func(chosen []int, first, more int) bool {
			if more == 0 {
				return yield(slices.Clone(chosen))
			}
			for number := first; number < end; number++ {
				if !choose(append(chosen, number), number+1, more-1) {
					return false
				}
			}
			return true
		}
		for many := range end + 1 {
			if !choose(nil, 0, many) {
				return
			}
		}
	}
}
