package relay

import (
	"glister/api"
	"glister/lists"
)

// hours has the hour from which on each station has the dispatch, and 0 for stations that the land does not have.
type hours [api.MaxHillStations]int

// flash returns the hours after each station that has the dispatch has flashed it at the hour.
func (s site) flash(before hours, kase, hour int) hours {
	after := before
	for station := range len(s.Stations) {
		if before[station] > hour {
			continue
		}
		for next := range s.reached(sight{moment{station, hour}, kase}) {
			after[next] = lists.Smallest(before[next], hour+1)
		}
	}
	return after
}

// earliest returns the earliest hour of each station in the case, or never.
func (s site) earliest(from, start, kase int) hours {
	var all hours
	for station := range len(s.Stations) {
		all[station] = s.never()
	}
	all[from] = start
	for hour := range s.end() {
		all = s.flash(all, kase, hour)
	}
	return all
}

// listed lists the hours of the stations as the calls return them.
func (s site) listed(all hours) []int {
	list := make([]int, len(s.Stations))
	for station := range list {
		list[station] = all[station]
		if all[station] == s.never() {
			list[station] = None
		}
	}
	return list
}

// stays tells whether no flash makes a number of the table smaller.
func (s site) stays(table []int, kase int) bool {
	var all hours
	copy(all[:], table)
	for hour := range s.end() {
		if s.flash(all, kase, hour) != all {
			return false
		}
	}
	return true
}

// sure returns the greatest earliest hour of the station to in all cases, or never, and the first case that has it.
func (s site) sure(from, to, start int) (hour, kase int) {
	hour = s.earliest(from, start, 0)[to]
	for other := range len(s.Cases) {
		if late := s.earliest(from, start, other)[to]; late > hour {
			hour, kase = late, other
		}
	}
	return hour, kase
}

// stuck returns all cases in which the station to does not get the dispatch.
func (s site) stuck(from, to, start int) []int {
	var cases []int
	for kase := range len(s.Cases) {
		if s.earliest(from, start, kase)[to] == s.never() {
			cases = append(cases, kase)
		}
	}
	return cases
}

// latest returns the latest start with which the station to has the dispatch at the hour by in each case, or None.
func (s site) latest(from, to, by int) int {
	found := None
	// A dispatch that begins later comes no earlier, as the station from could have kept it: after the first start that is too late no other one is in time.
search:
	for start := range by + 1 {
		for kase := range len(s.Cases) {
			if s.earliest(from, start, kase)[to] > by {
				break search
			}
		}
		found = start
	}
	return found
}

// vital returns all stations between both without which the dispatch sticks in some case.
func (s site) vital(from, to, start int) []int {
	var list []int
	for station := range len(s.Stations) {
		if station != from && station != to && len(s.without(station).stuck(from, to, start)) > 0 {
			list = append(list, station)
		}
	}
	return list
}
