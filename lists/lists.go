// Package lists has the small functions on lists that several layers use.
package lists

// All reports whether each element of the list holds.
func All[T any](list []T, holds func(T) bool) bool {
	for _, x := range list {
		if !holds(x) {
			return false
		}
	}
	return true
}

// InOrder reports whether each element of the list may come right ahead of the
// one behind it.
func InOrder[T any](list []T, mayPrecede func(element, next T) bool) bool {
	for i := 1; i < len(list); i++ {
		if !mayPrecede(list[i-1], list[i]) {
			return false
		}
	}
	return true
}

// Rises reports whether each number is greater than the one before it.
func Rises(numbers []int) bool {
	return InOrder(numbers, func(number, next int) bool { return number < next })
}

// Least returns the least of the numbers.
func Least(first int, others ...int) int {
	for _, n := range others {
		if n < first {
			first = n
		}
	}
	return first
}

// Greatest returns the greatest of the numbers.
func Greatest(first int, others ...int) int {
	for _, n := range others {
		if n > first {
			first = n
		}
	}
	return first
}

// Sum returns the sum of the numbers.
func Sum(numbers ...int) int {
	sum := 0
	for _, n := range numbers {
		sum += n
	}
	return sum
}
