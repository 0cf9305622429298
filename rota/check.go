package rota

import (
	"glister/api"
	"glister/lists"
)

// exceeds tells whether some list of the post is longer than its limit.
func (p Post) exceeds() bool {
	return len(p.Need) > api.MaxRotaWatches || len(p.People) > api.MaxRotaPeople || len(p.Cases) > api.MaxRotaCases
}

// valid tells whether a post that exceeds no limit is as the document describes.
func (p Post) valid() bool {
	return len(p.Need) > 0 && lists.Every(p.Need, Range{0, api.MaxRotaNeed}.has) &&
		len(p.People) > 0 && lists.Every(p.People, p.isPerson) && lists.Every(p.Cases, p.isCase)
}

// isPerson tells whether the person can be one of the post.
func (p Post) isPerson(x Person) bool {
	return len(x.Able) == len(p.Need) && lists.Every([]int{x.Rest, x.Most}, Range{0, api.MaxRotaWatches}.has)
}

// isCase tells whether the list can be a case of the post: Never is the number before the first watch.
func (p Post) isCase(ill []int) bool {
	return len(ill) == len(p.People) && lists.Every(ill, Range{Never, len(p.Need) - 1}.has)
}

// isCrew tells whether the list can be the people on duty in a watch.
func (p Post) isCrew(people []int) bool { return lists.RisesBelow(people, len(p.People)) }

// hasRota tells whether the lists can be a rota of the post.
func (p Post) hasRota(r [][]int) bool { return len(r) == len(p.Need) && lists.Every(r, p.isCrew) }

// check returns the error of the mirror, or OK.
func (m Mirror) check() api.Errno {
	percent := Range{0, full}
	switch {
	case len(m.Loss) > api.MaxRotaLosses:
		return api.ErrLimit
	case !percent.has(m.Floor) || len(m.Loss) == 0 || !lists.Every(m.Loss, percent.holds):
		return api.ErrArg
	}
	return api.OK
}

// hasWatches tells whether the list is one of watches of the mirror that rises.
func (m Mirror) hasWatches(list []int) bool { return lists.RisesBelow(list, len(m.Loss)) }

// has tells whether the number is one of the range.
func (r Range) has(n int) bool { return r.Lo <= n && n <= r.Hi }

// holds tells whether the other one is a range, with both ends in this one.
func (r Range) holds(other Range) bool {
	return other.Lo <= other.Hi && r.has(other.Lo) && r.has(other.Hi)
}
