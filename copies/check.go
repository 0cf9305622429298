package copies

import (
	"glister/api"
	"glister/lists"
)

// exceeds tells whether some list of the post is longer than its limit.
func (p Post) exceeds() bool {
	return len(p.Sends) > api.MaxCopiesSends || len(p.Routes) > api.MaxCopiesRoutes || !lists.Every(p.Routes, Route.isShort)
}

func (r Route) isShort() bool {
	return len(r.Legs) <= api.MaxCopiesLegs && lists.Every(r.Legs, Leg.isShort)
}

func (l Leg) isShort() bool { return len(l.Asleep) <= api.MaxCopiesAsleep }

// valid tells whether a post that exceeds no limit is as the document describes.
func (p Post) valid() bool {
	isHour := Range{0, api.MaxCopiesHour}.has
	return len(p.Sends) > 0 && lists.Every(p.Sends, isHour) && rises(p.Sends) &&
		len(p.Routes) > 0 && lists.Every(p.Routes, Route.valid) && isHour(p.Patience)
}

func (r Route) valid() bool { return len(r.Legs) > 0 && lists.Every(r.Legs, Leg.valid) }

func (l Leg) valid() bool {
	isNight := Range{0, api.MaxCopiesHour}.holds
	return Range{0, api.MaxCopiesTakes}.holds(l.Takes) && lists.Every(l.Asleep, isNight)
}

// has tells whether the number is one of the range.
func (r Range) has(n int) bool { return r.Lo <= n && n <= r.Hi }

// holds tells whether the other one is a range, with both ends in this one.
func (r Range) holds(other Range) bool {
	return other.Lo <= other.Hi && r.has(other.Lo) && r.has(other.Hi)
}

// isEntry tells whether an entry can be about the post.
func (p Post) isEntry(e Entry) bool {
	return below(e.Number, len(p.Sends)) && Range{0, api.MaxCopiesEnd}.has(e.At)
}

// fits tells whether the truth has a list for each copy: of all legs, or an empty one if the copy can be lost.
func (p Post) fits(t Truth) bool {
	return len(t) == len(p.Sends) && lists.Every(t, p.fitsRoutes)
}

func (p Post) fitsRoutes(takes [][]int) bool {
	if len(takes) != len(p.Routes) {
		return false
	}
	for i, r := range p.Routes {
		if len(takes[i]) != len(r.Legs) && !(r.Lossy && len(takes[i]) == 0) {
			return false
		}
	}
	return true
}

// allows tells whether all numbers of a truth that fits are in Takes of their legs.
func (p Post) allows(t Truth) bool { return lists.Every(t, p.allowsTakes) }

func (p Post) allowsTakes(takes [][]int) bool {
	for i, r := range p.Routes {
		for leg, n := range takes[i] {
			if !r.Legs[leg].Takes.has(n) {
				return false
			}
		}
	}
	return true
}

// checkTruth returns the error of the truth, or OK.
func (p Post) checkTruth(t Truth) api.Errno {
	switch {
	case !p.fits(t):
		return api.ErrRange
	case !p.allows(t):
		return api.ErrFalse
	}
	return api.OK
}

// below tells whether the number is from 0 to the end less 1.
func below(n, end int) bool { return 0 <= n && n < end }

// rises tells whether each number is greater than the one before it.
func rises(list []int) bool {
	for i, n := range list {
		if i > 0 && n <= list[i-1] {
			return false
		}
	}
	return true
}
