package lamp

import (
	"slices"

	"glister/lists"
)

// leave returns the smallest set.
func (k keeper) leave() []int {
	// Without any dips each truth agrees, so some list is found.
	left, _ := lists.Shortest(len(k.dips), func(left []int) bool { return !k.without(left).contradict() })
	return left
}

// without returns the store at work without the dips that are left out.
func (k keeper) without(left []int) keeper {
	var kept []Dip
	for i, d := range k.dips {
		if !slices.Contains(left, i) {
			kept = append(kept, d)
		}
	}
	k.dips = kept
	return k
}
