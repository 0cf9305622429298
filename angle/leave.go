package angle

import "glister/lists"

// leave returns the smallest set of a net that has a truth.
func (s sheet) leave() []int {
	// If all readings are left out there is a truth, so some list is found.
	left, _ := lists.Shortest(len(s.Angles), func(left []int) bool { return s.without(left).closes() })
	return left
}
