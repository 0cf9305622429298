package level

import "slices"

// leave returns the smallest set.
func (s Survey) leave() []int {
	var left []int
	// drop leaves out so many more lines, from the first one on, and tells whether the others have a truth then.
	var drop func(first, many int) bool
	drop = func(first, many int) bool {
		if many == 0 {
			return s.without(left).table().agrees()
		}
		for line := first; line <= len(s.Lines)-many; line++ {
			left = append(left, line)
			if drop(line+1, many-1) {
				return true
			}
			left = left[:len(left)-1]
		}
		return false
	}
	// Without any lines there is a truth, so some set is found.
search:
	for many := range len(s.Lines) + 1 {
		if drop(0, many) {
			break search
		}
	}
	return left
}

// without returns the survey without the lines that are left out.
func (s Survey) without(left []int) Survey {
	var kept []Line
	for i, l := range s.Lines {
		if !slices.Contains(left, i) {
			kept = append(kept, l)
		}
	}
	s.Lines = kept
	return s
}
