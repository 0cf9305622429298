package lamp

import (
	"glister/api"
	"glister/lists"
)

// exceeds tells whether the store has more nights than the limit.
func (s Store) exceeds() bool { return len(s.Nights) > api.MaxLampNights }

// valid tells whether a store that exceeds no limit is as the document describes.
func (s Store) valid() bool {
	return Range{1, api.MaxLampCap}.has(s.Cap) && Range{1, api.MaxLampCan}.has(s.Can) && Range{0, s.Cap}.holds(s.Start) &&
		len(s.Nights) > 0 && lists.Every(s.Nights, Night.valid)
}

func (n Night) valid() bool {
	return Range{1, api.MaxLampHours}.has(n.Hours) && Range{1, api.MaxLampWicks}.holds(n.wicks()) && Range{0, api.MaxLampBurn}.holds(n.Burn)
}

// wicks returns how many wicks can burn.
func (n Night) wicks() Range { return Range{n.Least, n.Most} }

// cans returns how many cans can be delivered: as many in each night.
func (n Night) cans() Range { return Range{0, api.MaxLampCans} }

// burn returns how many drops one wick can burn in an hour.
func (n Night) burn() Range { return n.Burn }

// hasEach tells whether the list has a number for each night, from the night's range.
func (s Store) hasEach(list []int, of func(Night) Range) bool {
	if len(list) != len(s.Nights) {
		return false
	}
	for night, number := range list {
		if !of(s.Nights[night]).has(number) {
			return false
		}
	}
	return true
}

func (s Store) hasCans(cans []int) bool { return s.hasEach(cans, Night.cans) }

func (s Store) hasWicks(wicks []int) bool { return s.hasEach(wicks, Night.wicks) }

func (s Store) hasPlan(p Plan) bool { return s.hasCans(p.Cans) && s.hasWicks(p.Wicks) }

// hasTruth tells whether the truth can be one of the store.
func (s Store) hasTruth(t Truth) bool { return s.Start.has(t.Start) && s.hasEach(t.Burn, Night.burn) }

// isDip tells whether the dip can be one of the store.
func (s Store) isDip(d Dip) bool {
	return Range{0, len(s.Nights) - 1}.has(d.Night) && Range{0, api.MaxLampCap}.holds(d.Oil)
}

// has tells whether the number is one of the range.
func (r Range) has(n int) bool { return r.Lo <= n && n <= r.Hi }

// holds tells whether the other one is a range, with both ends in this one.
func (r Range) holds(other Range) bool {
	return other.Lo <= other.Hi && r.has(other.Lo) && r.has(other.Hi)
}
