package lamp

import (
	"slices"

	"glister/lists"
)

// leave returns the smallest set.
func (k keeper) leave() []int {
	var found []int
	// Without any dips each truth agrees, so some list is found.
search:
	for many := range len(k.dips) + 1 {
		for list := range lists.Rising(many, len(k.dips)) {
			if !k.without(list).contradict() {
				found = list
				break search
			}
		}
	}
	return found
}

// without returns the store at work without the dips that are left out.
func (k keeper) without(left []int) keeper {
	var kept []Dip
	for i, d := range k.dips {
		if !slices.Contains(left, i) {
			kept = append(kept, d)
		}
	}
	k.dips = kept
	return k
}
