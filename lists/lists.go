// Package lists has what the packages of several layers do with lists.
package lists

import "iter"

// Rising yields all lists of so many numbers from 0 to the end less 1 that rise, in lexicographic order; each one is new.
func Rising(many, end int) iter.Seq[[]int] { return risingFrom(0, many, end) }

// risingFrom yields those whose numbers are from the first one on.
func risingFrom(first, many, end int) iter.Seq[[]int] {
	return func(yield func([]int) bool) {
		if many == 0 {
			yield(nil)
			return
		}
		for n := first; n <= end-many; n++ {
			for others := range risingFrom(n+1, many-1, end) {
				if !yield(append([]int{n}, others...)) {
					return
				}
			}
		}
	}
}

// Shortest returns the shortest list of numbers from 0 to the end less 1 that rises and passes the test; of several, the one that is lexicographically first.
func Shortest(end int, test func([]int) bool) (list []int, found bool) {
search:
	for many := range end + 1 {
		for some := range Rising(many, end) {
			if test(some) {
				list, found = some, true
				break search
			}
		}
	}
	return list, found
}

// RisesBelow tells whether the list rises, and has numbers from 0 to the end less 1.
func RisesBelow(list []int, end int) bool {
	next := 0
	for _, n := range list {
		if n < next || n >= end {
			return false
		}
		next = n + 1
	}
	return true
}

// Every tells whether each element passes the test.
func Every[T any](list []T, test func(T) bool) bool {
	for _, x := range list {
		if !test(x) {
			return false
		}
	}
	return true
}

// Smallest returns the smallest of the numbers.
func Smallest(first int, others ...int) int {
	for _, n := range others {
		first = min(first, n)
	}
	return first
}
