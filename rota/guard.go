package rota

import (
	"slices"

	"glister/api"
	"glister/lists"
)

// guard is a post at work. It has the lists of all cases, and at last the one of the case in which nobody is ill.
type guard struct {
	Post
	ill [][]int
}

// open returns the post at work, or its error.
func open(p Post) (guard, api.Errno) {
	if e := CheckPost(p); e != api.OK {
		return guard{}, e
	}
	ill := make([][]int, len(p.Cases)+1)
	copy(ill, p.Cases)
	ill[len(p.Cases)] = slices.Repeat([]int{Never}, len(p.People))
	return guard{p, ill}, api.OK
}

// openRota returns the post at work, or the error of a call that is about it and a rota.
func openRota(p Post, r [][]int) (guard, api.Errno) {
	g, e := open(p)
	switch {
	case e != api.OK:
		return guard{}, e
	case !g.hasRota(r):
		return guard{}, api.ErrRange
	}
	return g, api.OK
}

// everybody lists all people.
func (p Post) everybody() []int {
	var list []int
	for person := range len(p.People) {
		list = append(list, person)
	}
	return list
}

// turns is what one person has stood: how many watches, and from which one on the person has rested.
type turns struct{ many, rested int }

// stood is what everybody has stood.
type stood [api.MaxRotaPeople]turns

// isOf tells whether nobody else has stood a watch.
func (s stood) isOf(people []int) bool {
	for _, person := range people {
		s[person] = turns{}
	}
	return s == stood{}
}

// moment is a watch, with what everybody has stood before it.
type moment struct {
	watch int
	stood stood
}

// can tells whether the rules allow that the people are on duty at the moment.
func (p Post) can(at moment, people []int) bool {
	return lists.Every(people, func(person int) bool {
		x, has := p.People[person], at.stood[person]
		return x.Able[at.watch] && has.many < x.Most && has.rested <= at.watch
	})
}

// after returns the next moment, if the people are on duty.
func (p Post) after(at moment, people []int) moment {
	next := moment{at.watch + 1, at.stood}
	for _, person := range people {
		next.stood[person] = turns{at.stood[person].many + 1, next.watch + p.People[person].Rest}
	}
	return next
}

// keeps tells whether the rota keeps the rules.
func (p Post) keeps(r [][]int) bool {
	var at moment
	for _, people := range r {
		if !p.can(at, people) {
			return false
		}
		at = p.after(at, people)
	}
	return true
}

// areEnough tells whether of the people on duty in the watch as many as are needed are not ill, if these are the watches from which everybody is.
func (p Post) areEnough(people []int, watch int, ill []int) bool {
	awake := 0
	for _, person := range people {
		if from := ill[person]; from == Never || watch < from {
			awake++
		}
	}
	return awake >= p.Need[watch]
}

// failsAt returns the watch at which the rota fails, or Never.
func (p Post) failsAt(r [][]int, ill []int) int {
	for watch := range len(p.Need) {
		if !p.areEnough(r[watch], watch, ill) {
			return watch
		}
	}
	return Never
}

// fails returns for each case, and at last for the one in which nobody is ill, the watch at which the rota fails, or Never.
func (g guard) fails(r [][]int) []int {
	var list []int
	for _, ill := range g.ill {
		list = append(list, g.failsAt(r, ill))
	}
	return list
}

// isSafe tells whether the rota is.
func (g guard) isSafe(r [][]int) bool {
	return g.keeps(r) && lists.Every(g.fails(r), func(watch int) bool { return watch == Never })
}

// dutiesOf returns the number of people of all lists.
func dutiesOf(r [][]int) int {
	many := 0
	for _, people := range r {
		many += len(people)
	}
	return many
}
