package lamp

import (
	"glister/api"
	"glister/lists"
)

// keeper is a store at work by a plan, with the dips that were made.
type keeper struct {
	Store
	Plan
	dips []Dip
}

// open returns the store at work, or the error of a call that is about it, about a plan and about dips.
func open(s Store, p Plan, dips ...Dip) (keeper, api.Errno) {
	e := CheckStore(s)
	switch {
	case e != api.OK:
		return keeper{}, e
	case !s.hasPlan(p):
		return keeper{}, api.ErrRange
	case len(dips) > api.MaxLampDips:
		return keeper{}, api.ErrLimit
	case !lists.Every(dips, s.isDip):
		return keeper{}, api.ErrRange
	}
	return keeper{s, p, dips}, api.OK
}

// evening is a night, with the oil before it.
type evening struct{ night, oil int }

// share is what a plan has for one night.
type share struct{ cans, wicks int }

func (p Plan) share(night int) share { return share{p.Cans[night], p.Wicks[night]} }

// pass returns what is left after the night, what is given back in its evening, and whether it is lit, if one wick burns so many drops in an hour.
func (s Store) pass(at evening, by share, burn int) (left, back int, lit bool) {
	n := s.Nights[at.night]
	oil, needed := at.oil+by.cans*s.Can, n.Hours*by.wicks*burn
	full := lists.Smallest(s.Cap, oil)
	return max(0, full-needed), oil - full, full >= needed
}

// played returns for each night what Play returns for it.
func (k keeper) played(t Truth) (left, back []int, lit []bool) {
	oil := t.Start
	for night, burn := range t.Burn {
		rest, more, enough := k.pass(evening{night, oil}, k.share(night), burn)
		left, back, lit = append(left, rest), append(back, more), append(lit, enough)
		oil = rest
	}
	return left, back, lit
}

// burnEnd is an end of what one wick burns in an hour.
type burnEnd struct{ of func(Range) int }

func (r Range) low() int { return r.Lo }

func (r Range) high() int { return r.Hi }

func least() burnEnd { return burnEnd{Range.low} }

func most() burnEnd { return burnEnd{Range.high} }

// worst returns the truth in which before each night there is the least oil, and in each night the most is needed.
func (s Store) worst() Truth {
	t := Truth{Start: s.Start.Lo}
	for _, n := range s.Nights {
		t.Burn = append(t.Burn, most().of(n.Burn))
	}
	return t
}

// dark returns the nights that can become dark: those that are in the worst truth.
func (k keeper) dark() []int {
	var list []int
	_, _, lit := k.played(k.worst())
	for night := range len(k.Nights) {
		if !lit[night] {
			list = append(list, night)
		}
	}
	return list
}
