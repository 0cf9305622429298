package level

import (
	"slices"

	"glister/api"
	"glister/hill"
	"glister/lists"
)

// surveyor is a survey at work, with the greatest differences of its nodes.
type surveyor struct {
	Survey
	table
}

// open returns the survey at work, or the error of a call that is about truths, and about stations.
func open(s Survey, stations ...int) (surveyor, api.Errno) {
	e := CheckSurvey(s)
	switch {
	case e != api.OK:
		return surveyor{}, e
	case !lists.Every(stations, s.stations().has):
		return surveyor{}, api.ErrRange
	case len(stations) == 2 && stations[0] == stations[1]:
		return surveyor{}, api.ErrTwice
	}
	v := surveyor{s, s.table()}
	if !v.agrees() {
		return surveyor{}, api.ErrFail
	}
	return v, api.OK
}

// heights returns the bounds of all heights.
func (v surveyor) heights() []Range {
	var list []Range
	for station := range len(v.Known) {
		list = append(list, v.between(ground, station))
	}
	return list
}

// bendings returns the bounds of all bendings: of those that fit some difference of the line. The other lines do not matter for them otherwise.
func (v surveyor) bendings() []Range {
	var list []Range
	for _, l := range v.Lines {
		reach := v.between(l.From, l.To)
		bounds := v.bending(l, reach.Lo)
		for difference := reach.Lo; difference <= reach.Hi; difference++ {
			fits := v.bending(l, difference)
			bounds = Range{lists.Smallest(bounds.Lo, fits.Lo), max(bounds.Hi, fits.Hi)}
		}
		list = append(list, bounds)
	}
	return list
}

// end is an end of the bounds of heights.
type end struct{ of func(Range) int }

func (r Range) low() int { return r.Lo }

func (r Range) high() int { return r.Hi }

func lowest() end { return end{Range.low} }

func highest() end { return end{Range.high} }

// truth returns one in which each height is at this end of its bounds. All of them can be there at once: a difference that is too great would have moved an end.
func (v surveyor) truth(at end) Truth {
	var t Truth
	for _, bounds := range v.heights() {
		t.Height = append(t.Height, at.of(bounds))
	}
	for _, l := range v.Lines {
		t.Bend = append(t.Bend, v.bending(l, t.Height[l.To]-t.Height[l.From]).Lo)
	}
	return t
}

// isFree tells whether no ridge blocks between the stations if each height is at this end of its bounds.
func (v surveyor) isFree(from, to int, at end) bool {
	land := v.Land
	land.Stations = slices.Clone(land.Stations)
	for station, height := range v.truth(at).Height {
		land.Stations[station].Z = height
	}
	// Ridges are the same in each case and at each hour.
	ridges, _, _ := hill.Walls(land, from, to, 0, 0)
	return len(ridges) == 0
}
