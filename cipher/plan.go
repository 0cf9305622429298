package cipher

import (
	"slices"

	"glister/api"
	"glister/lists"
)

// stuck are the changes if no plan is right: more than those of any plan.
const stuck = api.MaxCipherDays

// noKey stands for the key of the day before day 0.
const noKey = -1

// uses has the number of days on which each key is used.
type uses [api.MaxCipherKeys]int

// eve is a day with the key of the day before, and the uses of all keys up to then.
type eve struct {
	day, last int
	used      uses
}

// with returns the next day, if the key is used on this one.
func (e eve) with(key int) eve {
	e.used[key]++
	return eve{e.day + 1, key, e.used}
}

// changesTo returns 1 if the key is not that of the day before, otherwise 0.
func (e eve) changesTo(key int) int {
	if e.last == noKey || e.last == key {
		return 0
	}
	return 1
}

// plan has the keys of the last days of a book, and the changes on them.
type plan struct {
	keys    []int
	changes int
}

// best returns the best plan. If no plan is right, it has the changes stuck.
func (d desk) best(most int) plan {
	known := map[eve]plan{}
	var extend func(at eve) plan
	extend = func(at eve) plan {
		if p, ok := known[at]; ok {
			return p
		}
		if at.day == len(d.Days) {
			return plan{}
		}
		p := plan{changes: stuck}
		for key := range len(d.Keys) {
			if !d.isFree(key, at.day) || at.used[key] == most {
				continue
			}
			rest := extend(at.with(key))
			// Of as many changes the first one stays, as its key is smaller.
			if changes := at.changesTo(key) + rest.changes; changes < p.changes {
				p = plan{slices.Concat([]int{key}, rest.keys), changes}
			}
		}
		known[at] = p
		return p
	}
	return extend(eve{last: noKey})
}

// isFree tells whether others do not have the key on the day.
func (d desk) isFree(key, day int) bool { return day < d.taken(key) }

// isRight tells whether the list is a right plan.
func (d desk) isRight(keys []int, most int) bool {
	if len(keys) != len(d.Days) || !lists.Every(keys, d.hasKey) {
		return false
	}
	var used uses
	for day, key := range keys {
		used[key]++
		if !d.isFree(key, day) {
			return false
		}
	}
	return lists.Every(used[:], func(many int) bool { return many <= most })
}

// changesOf returns the changes of a plan.
func changesOf(keys []int) int {
	changes := 0
	at := eve{last: noKey}
	for _, key := range keys {
		changes += at.changesTo(key)
		at = at.with(key)
	}
	return changes
}
