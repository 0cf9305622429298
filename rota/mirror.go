package rota

import (
	"slices"

	"glister/lists"
)

// full is the brightness of a polished mirror.
const full = 100

// end is an end of what is lost in each watch.
type end struct{ of func(Range) int }

func (r Range) low() int { return r.Lo }

func (r Range) high() int { return r.Hi }

func least() end { return end{Range.low} }

func most() end { return end{Range.high} }

// after returns the brightness after each watch, if this end of all ranges is lost.
func (m Mirror) after(polished []int, lost end) []int {
	var list []int
	bright := full
	for watch, loss := range m.Loss {
		if slices.Contains(polished, watch) {
			bright = full
		}
		bright = max(0, bright-lost.of(loss))
		list = append(list, bright)
	}
	return list
}

// bounds returns the bounds of the brightness after each watch.
func (m Mirror) bounds(polished []int) []Range {
	var list []Range
	brightest := m.after(polished, least())
	for watch, darkest := range m.after(polished, most()) {
		list = append(list, Range{darkest, brightest[watch]})
	}
	return list
}

// staysBright tells whether the mirror does by the list: whether it does if the most is lost.
func (m Mirror) staysBright(polished []int) bool {
	return lists.Smallest(full, m.after(polished, most())...) >= m.Floor
}
