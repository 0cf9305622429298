package angle

import "iter"

// leave returns the smallest set of a net that has a truth.
func (s sheet) leave() []int {
	var found []int
	// If all readings are left out there is a truth, so some list is found.
search:
	for many := range len(s.Angles) + 1 {
		for list := range rising(many, 0, len(s.Angles)) {
			if s.without(list).closes() {
				found = list
				break search
			}
		}
	}
	return found
}

// rising yields all increasing lists of so many numbers from the first one to the end less 1, in lexicographic order.
func rising(many, first, end int) iter.Seq[[]int] {
	return func(yield func([]int) bool) {
		if many == 0 {
			yield(nil)
			return
		}
		for n := first; n <= end-many; n++ {
			for others := range rising(many-1, n+1, end) {
				if !yield(append([]int{n}, others...)) {
					return
				}
			}
		}
	}
}
