package lamp

import (
	"iter"

	"glister/api"
	"glister/lists"
)

// oils tells of each number of drops whether there can be as many.
type oils [api.MaxLampCap + 1]bool

// all yields each number of drops that there can be, rising.
func (o oils) all() iter.Seq[int] {
	return func(yield func(int) bool) {
		for oil, can := range o {
			if can && !yield(oil) {
				return
			}
		}
	}
}

// bounds returns the range from the first to the last number of drops that there can be.
func (o oils) bounds() Range {
	b := Range{len(o), 0}
	for oil := range o.all() {
		b = Range{lists.Smallest(b.Lo, oil), oil}
	}
	return b
}

// after yields the dips of the oil after the night.
func (k keeper) after(night int) iter.Seq[Dip] {
	return func(yield func(Dip) bool) {
		for _, d := range k.dips {
			if d.Night == night && !yield(d) {
				return
			}
		}
	}
}

// dipped tells whether all dips after the night agree with this oil.
func (k keeper) dipped(night, oil int) bool {
	for d := range k.after(night) {
		if !d.Oil.has(oil) {
			return false
		}
	}
	return true
}

// mornings yields the evenings that can follow, if the dips after the night agree.
func (k keeper) mornings(at evening) iter.Seq[evening] {
	return func(yield func(evening) bool) {
		n := k.Nights[at.night]
		for burn := least().of(n.Burn); burn <= most().of(n.Burn); burn++ {
			left, _, _ := k.pass(at, k.share(at.night), burn)
			if k.dipped(at.night, left) && !yield(evening{at.night + 1, left}) {
				return
			}
		}
	}
}

// agreeing returns a test whether from an evening on some truth agrees with all dips.
func (k keeper) agreeing() func(evening) bool {
	known := map[evening]bool{}
	var agrees func(at evening) bool
	agrees = func(at evening) bool {
		if at.night == len(k.Nights) {
			return true
		}
		if ok, found := known[at]; found {
			return ok
		}
		known[at] = false
		for next := range k.mornings(at) {
			if agrees(next) {
				known[at] = true
				break
			}
		}
		return known[at]
	}
	return agrees
}

// course returns the oil that there can be at first, and after each night, in truths that agree with all dips.
func (k keeper) course() []oils {
	agrees := k.agreeing()
	list := make([]oils, len(k.Nights)+1)
	for oil := k.Start.Lo; oil <= k.Start.Hi; oil++ {
		list[0][oil] = agrees(evening{0, oil})
	}
	for night := range len(k.Nights) {
		for oil := range list[night].all() {
			for next := range k.mornings(evening{night, oil}) {
				list[night+1][next.oil] = list[night+1][next.oil] || agrees(next)
			}
		}
	}
	return list
}

// contradict tells whether the dips contradict each other.
func (k keeper) contradict() bool { return k.course()[0] == oils{} }

// bounds returns the bounds of the oil after each night, if the dips do not contradict each other.
func (k keeper) bounds() []Range {
	var list []Range
	for _, o := range k.course()[1:] {
		list = append(list, o.bounds())
	}
	return list
}
