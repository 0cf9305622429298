package angle

import "glister/lists"

// leave returns the smallest set of a net that has a truth.
func (s sheet) leave() []int {
	var found []int
	// If all readings are left out there is a truth, so some list is found.
search:
	for many := range len(s.Angles) + 1 {
		for list := range lists.Rising(many, len(s.Angles)) {
			if s.without(list).closes() {
				found = list
				break search
			}
		}
	}
	return found
}
