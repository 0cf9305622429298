package relay

import (
	"iter"
	"slices"

	"glister/api"
	"glister/hill"
	"glister/lists"
)

// Calls that are about no case open the land for the first one, which each valid land has.
const anyCase = 0

// moment is a station with an hour.
type moment struct{ station, hour int }

// sight is a moment in a case.
type sight struct {
	moment
	kase int
}

// site is a land at work. It keeps the stations that can be flashed to, where they are known.
type site struct {
	hill.Land
	known map[sight][]int
	gone  int // the station that neither gets nor flashes anything, or None
}

// open returns the land at work, or the error of a call that is about a case, an hour (the end is one, too) and stations of it.
func open(l hill.Land, kase, hour int, stations ...int) (site, api.Errno) {
	if e := hill.CheckLand(l); e != api.OK {
		return site{}, e
	}
	s := site{Land: l, known: map[sight][]int{}, gone: None}
	if !s.isCase(kase) || !s.isHour(hour) || !lists.Every(stations, s.isStation) {
		return site{}, api.ErrRange
	}
	return s, api.OK
}

// end is the hour after the last one of the land.
func (s site) end() int { return len(s.Sun) }

// never stands for the earliest hour of a station that does not get the dispatch: no station has one as late.
func (s site) never() int { return s.end() + 1 }

func (s site) isStation(n int) bool { return 0 <= n && n < len(s.Stations) }

func (s site) isCase(n int) bool { return 0 <= n && n < len(s.Cases) }

func (s site) isHour(n int) bool { return 0 <= n && n <= s.end() }

// isNumber tells whether a table can have the number.
func (s site) isNumber(n int) bool { return 0 <= n && n <= s.never() }

// without is the land at work without a station.
func (s site) without(station int) site {
	s.gone = station
	return s
}

// seen returns the stations that can be flashed to from the station of the sight, whichever station is gone.
func (s site) seen(at sight) []int {
	list, known := s.known[at]
	if !known {
		list, _ = hill.Reach(s.Land, at.station, at.kase, at.hour)
		s.known[at] = list
	}
	return list
}

// reached yields the stations that are flashed to from the station of the sight.
func (s site) reached(at sight) iter.Seq[int] {
	return func(yield func(int) bool) {
		for _, station := range s.seen(at) {
			if station != s.gone && !yield(station) {
				return
			}
		}
	}
}

// sticks returns the first case in which the hop does not work, if there is one.
func (s site) sticks(h Hop) (kase int, sticks bool) {
	for kase := range s.Cases {
		if !slices.Contains(s.seen(sight{moment{h.From, h.Hour}, kase}), h.To) {
			return kase, true
		}
	}
	return 0, false
}

// isSure tells whether the hop works in each case.
func (s site) isSure(h Hop) bool {
	_, sticks := s.sticks(h)
	return !sticks
}
