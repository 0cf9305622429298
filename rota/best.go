package rota

import (
	"iter"
	"slices"

	"glister/lists"
)

// crews yields the lists of people that can be on duty at the moment in a best rota, in the order in which rotas are compared.
func (g guard) crews(at moment) iter.Seq[[]int] {
	return func(yield func([]int) bool) {
		for many := range len(g.People) + 1 {
			for people := range lists.Rising(many, len(g.People)) {
				if g.can(at, people) && g.needs(people, at.watch) && !yield(people) {
					return
				}
			}
		}
	}
}

// needs tells whether in all cases the people are enough in the watch, and without any one of them they are not. A person who is not needed is not on duty in a best rota: it keeps the rules without the person, too.
func (g guard) needs(people []int, watch int) bool {
	return g.holds(people, watch) && lists.Every(people, func(person int) bool {
		others := slices.DeleteFunc(slices.Clone(people), func(other int) bool { return other == person })
		return !g.holds(others, watch)
	})
}

// holds tells whether in all cases the people are enough in the watch.
func (g guard) holds(people []int, watch int) bool {
	return lists.Every(g.ill, func(ill []int) bool { return g.areEnough(people, watch, ill) })
}

// plan is the best rota of the watches from some moment on, with its duties, if there is a safe one.
type plan struct {
	rota   [][]int
	duties int
	safe   bool
}

// with returns the plan with the people on duty in the watch before it.
func (x plan) with(people []int) plan {
	rota := make([][]int, len(x.rota)+1)
	rota[0] = people
	copy(rota[1:], x.rota)
	return plan{rota, len(people) + x.duties, x.safe}
}

// best returns the best plan of all watches in which nobody else is on duty.
func (g guard) best(only []int) plan {
	known := map[moment]plan{}
	var extend func(at moment) plan
	extend = func(at moment) plan {
		if at.watch == len(g.Need) {
			return plan{safe: true}
		}
		best, found := known[at]
		if found {
			return best
		}
		for people := range g.crews(at) {
			next := g.after(at, people)
			if !next.stood.isOf(only) {
				continue
			}
			// Of as many duties the first plan is the smallest one, as the lists come in their order.
			if x := extend(next).with(people); x.safe && (!best.safe || x.duties < best.duties) {
				best = x
			}
		}
		known[at] = best
		return best
	}
	return extend(moment{})
}

// enough returns the smallest set of people, if some rota is safe.
func (g guard) enough() ([]int, bool) {
	return lists.Shortest(len(g.People), func(people []int) bool { return g.best(people).safe })
}
