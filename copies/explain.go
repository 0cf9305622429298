package copies

import (
	"slices"

	"glister/lists"
)

// eve is a dispatch, with the hour at which the one before it is finished.
type eve struct{ number, before int }

// explaining returns hours of the dispatches with which all entries are so, if there are any.
func (o office) explaining(entries []Entry) ([]int, bool) {
	failed := map[eve]bool{}
	var search func(at eve) ([]int, bool)
	search = func(at eve) ([]int, bool) {
		switch {
		case at.number == len(o.Sends):
			return nil, true
		case failed[at]:
			return nil, false
		}
		for hour := range o.dispatches[at.number].all() {
			e := o.entry(at.number, hour, at.before)
			if !lists.Every(entries, e.agrees) {
				continue
			}
			if rest, ok := search(eve{at.number + 1, e.At}); ok {
				return slices.Concat([]int{hour}, rest), true
			}
		}
		failed[at] = true
		return nil, false
	}
	return search(eve{})
}

// agrees tells whether the other entry is not about this dispatch, or equal.
func (e Entry) agrees(other Entry) bool { return other.Number != e.Number || other == e }

// explains tells whether all entries are so in the truth.
func (o office) explains(t Truth, entries []Entry) bool {
	journal := o.played(t)
	return lists.Every(entries, func(e Entry) bool { return e == journal[e.Number] })
}

// truth returns a truth in which the dispatches have the hours, which are some that they can have.
func (o office) truth(hours []int) Truth {
	var t Truth
	for number, hour := range hours {
		var takes [][]int
		for route, r := range o.Routes {
			set, at := o.copies[sheet{number, route}], hour
			if !set[hour] {
				// Another copy is there at the hour, so this one has to be later.
				at = set.last()
			}
			takes = append(takes, r.takes(o.Sends[number], at))
		}
		t = append(t, takes)
	}
	return t
}

// odd returns the smallest set.
func (o office) odd(entries []Entry) []int {
	var search func(left []int, next, more int) ([]int, bool)
	search = func(left []int, next, more int) ([]int, bool) {
		if more == 0 {
			_, ok := o.explaining(without(entries, left))
			return left, ok
		}
		for i := next; i < len(entries); i++ {
			if found, ok := search(slices.Concat(left, []int{i}), i+1, more-1); ok {
				return found, true
			}
		}
		return nil, false
	}
	// If all entries are left out nothing has to be explained, so some list is found.
	for many := range len(entries) + 1 {
		if found, ok := search(nil, 0, many); ok {
			return found
		}
	}
	return nil
}

// without returns the entries whose indexes are not left out.
func without(entries []Entry, left []int) []Entry {
	var list []Entry
	for i, e := range entries {
		if !slices.Contains(left, i) {
			list = append(list, e)
		}
	}
	return list
}
