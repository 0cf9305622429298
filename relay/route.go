package relay

import (
	"cmp"
	"slices"
)

func (h Hop) hour() int { return h.Hour }

func (h Hop) to() int { return h.To }

// way is a way in which hops are compared: by a number of theirs.
type way struct{ number func(Hop) int }

// compareHops compares hops by their hours, then by the stations to which they go.
func compareHops(a, b Hop) int {
	for _, w := range [...]way{{Hop.hour}, {Hop.to}} {
		if order := cmp.Compare(w.number(a), w.number(b)); order != 0 {
			return order
		}
	}
	return 0
}

// plan has hops and the hour at which they arrive, or never if there are none that do.
type plan struct {
	hops    []Hop
	arrives int
}

// behind is the plan with a hop before it.
func (p plan) behind(h Hop) plan {
	return plan{slices.Concat([]Hop{h}, p.hops), p.arrives}
}

// better tells whether the plan arrives earlier than the other one, or as early with fewer hops, or with as many that are before those of the other one.
func (p plan) better(other plan) bool {
	return cmp.Or(
		cmp.Compare(p.arrives, other.arrives),
		cmp.Compare(len(p.hops), len(other.hops)),
		slices.CompareFunc(p.hops, other.hops, compareHops),
	) < 0
}

// best returns the best plan for the dispatch. From each moment it either waits an hour, or makes a hop that works in each case.
func (s site) best(from, to, start int) plan {
	known := map[moment]plan{}
	var search func(at moment) plan
	search = func(at moment) plan {
		if p, ok := known[at]; ok {
			return p
		}
		p := plan{arrives: s.never()}
		switch {
		case at.station == to:
			p.arrives = at.hour
		case at.hour < s.end():
			p = search(moment{at.station, at.hour + 1})
			for next := range s.reached(sight{at, anyCase}) {
				h := Hop{From: at.station, To: next, Hour: at.hour}
				if !s.isSure(h) {
					continue
				}
				if q := search(moment{next, at.hour + 1}).behind(h); q.better(p) {
					p = q
				}
			}
		}
		known[at] = p
		return p
	}
	return search(moment{from, start})
}

// follow returns the moment at which the hops arrive, and whether each of them is one of the land, and begins where the one before it ended, and not earlier.
func (s site) follow(at moment, hops []Hop) (moment, bool) {
	for _, h := range hops {
		if h.From != at.station || !s.isStation(h.To) || h.Hour < at.hour || h.Hour >= s.end() {
			return moment{}, false
		}
		at = moment{h.To, h.Hour + 1}
	}
	return at, true
}
