package mask

import (
	"slices"

	"glister/api"
	"glister/lists"
)

// choices has for each record what an assignment can have for it, if it has no dispatch twice.
type choices [][]int

// tooMany is above the number of Masks in each assignment: it stands for their fewest number if there is no assignment.
const tooMany = api.MaxMaskRecords + 1

// stage is how far an assignment is: the next record, and which dispatches are used.
type stage struct {
	record int
	used   [api.MaxMaskSent]bool
}

// fewest returns how often Mask is in an assignment at least, or tooMany.
func (c choices) fewest() int {
	known := map[stage]int{}
	var search func(at stage) int
	search = func(at stage) int {
		if at.record == len(c) {
			return 0
		}
		if masks, ok := known[at]; ok {
			return masks
		}
		var masks []int
		for _, choice := range c[at.record] {
			after := stage{at.record + 1, at.used}
			switch {
			case choice == Mask:
				masks = append(masks, search(after)+1)
			case !at.used[choice]:
				after.used[choice] = true
				masks = append(masks, search(after))
			}
		}
		known[at] = lists.Smallest(tooMany, masks...)
		return known[at]
	}
	return search(stage{})
}

func (c choices) possible() bool { return c.fewest() < tooMany }

// with returns the choices with these ones for the record.
func (c choices) with(record int, list ...int) choices {
	c = slices.Clone(c)
	c[record] = list
	return c
}

// best returns the best assignment; there must be one.
func (c choices) best() []int {
	var by []int
	fewest := c.fewest()
	for record, list := range c {
		for _, choice := range list {
			if next := c.with(record, choice); next.fewest() == fewest {
				c, by = next, append(by, choice)
				break
			}
		}
	}
	return by
}

// have tells whether the list is an assignment.
func (c choices) have(by []int) bool {
	if len(by) != len(c) {
		return false
	}
	for record, choice := range by {
		if !slices.Contains(c[record], choice) {
			return false
		}
		c = c.with(record, choice)
	}
	return c.possible()
}

// without returns the choices of the records that are not left out.
func (c choices) without(left []int) choices {
	var others choices
	for record, list := range c {
		if !slices.Contains(left, record) {
			others = append(others, list)
		}
	}
	return others
}

// leave returns the smallest set.
func (c choices) leave() []int {
	// Without any records there is an assignment, so some list is found.
	left, _ := lists.Shortest(len(c), func(left []int) bool { return c.without(left).possible() })
	return left
}
