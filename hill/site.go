package hill

import (
	"iter"
	"slices"

	"glister/api"
	"glister/lists"
)

// Calls that are about no case, or about no hour, open the land for the first one, which each valid land has.
const (
	anyCase = 0
	anyHour = 0
)

// pair has the indexes of two stations, the smaller one first.
type pair struct{ low, high int }

// site is a land at work. It keeps the ridges that block between two stations: they are the same both ways, in each case and at each hour.
type site struct {
	Land
	blocked map[pair][]int
}

// open returns the land at work, or the error of a call that is about a case, an hour and stations of it.
func open(l Land, kase, hour int, stations ...int) (*site, api.Errno) {
	if e := CheckLand(l); e != api.OK {
		return nil, e
	}
	cases, hours, known := span{0, len(l.Cases) - 1}, span{0, len(l.Sun) - 1}, span{0, len(l.Stations) - 1}
	switch {
	case !cases.has(kase) || !hours.has(hour) || !lists.Every(stations, known.has):
		return nil, api.ErrRange
	case len(stations) == 2 && stations[0] == stations[1]:
		return nil, api.ErrTwice
	}
	return &site{Land: l, blocked: map[pair][]int{}}, api.OK
}

func (s *site) line(from, to int) line { return line{s.Stations[from], s.Stations[to]} }

// blocking yields the indexes of the walls that block the line, rising.
func blocking(l line, walls iter.Seq2[int, Wall]) iter.Seq[int] {
	return func(yield func(int) bool) {
		for i, w := range walls {
			if l.blockedBy(w) && !yield(i) {
				return
			}
		}
	}
}

// cloudsAt yields the indexes and the walls of the clouds of the case that are there at the hour.
func (s *site) cloudsAt(kase, hour int) iter.Seq2[int, Wall] {
	return func(yield func(int, Wall) bool) {
		for i, c := range s.Cases[kase] {
			there := span{c.From, c.To}
			if there.has(hour) && !yield(i, c.Wall) {
				return
			}
		}
	}
}

// ridges returns the indexes of all ridges that block between both stations.
func (s *site) ridges(from, to int) []int {
	key := pair{low: min(from, to), high: max(from, to)}
	list, known := s.blocked[key]
	if !known {
		list = slices.Collect(blocking(s.line(from, to), slices.All(s.Ridges)))
		s.blocked[key] = list
	}
	return list
}

// clouds returns the indexes of all clouds of the case that are there at the hour and block between both stations.
func (s *site) clouds(from, to, kase, hour int) []int {
	return slices.Collect(blocking(s.line(from, to), s.cloudsAt(kase, hour)))
}

// why returns the first reason that applies, and the first wall that blocks, if that is the reason.
func (s *site) why(from, to, kase, hour int) (reason uint8, wall int) {
	sun, line := s.Sun[hour], s.line(from, to)
	var walls []int
search:
	for _, reason = range [...]uint8{Night, Behind, RidgeBlocks, CloudBlocks, Free} {
		switch reason {
		case Night:
			if !sun.isUp() {
				break search
			}
		case Behind:
			if sun.behind(line) && line.from.Mirrors == 1 {
				break search
			}
		case RidgeBlocks:
			if walls = s.ridges(from, to); len(walls) > 0 {
				break search
			}
		case CloudBlocks:
			if walls = s.clouds(from, to, kase, hour); len(walls) > 0 {
				break search
			}
		}
	}
	return reason, smallest(walls...)
}

func (s *site) free(from, to, kase, hour int) bool {
	reason, _ := s.why(from, to, kase, hour)
	return reason == Free
}

// stuck returns all cases in which the station from cannot flash to the station to at the hour.
func (s *site) stuck(from, to, hour int) []int {
	var cases []int
	for kase := range len(s.Cases) {
		if !s.free(from, to, kase, hour) {
			cases = append(cases, kase)
		}
	}
	return cases
}

// hours returns all hours that pass the test.
func (s *site) hours(test func(hour int) bool) []int {
	var list []int
	collect := func(hour int) {
		if test(hour) {
			list = append(list, hour)
		}
	}
	for hour := range len(s.Sun) {
		collect(hour)
	}
	return list
}

// smallest returns the smallest of the numbers, and 0 if there are none.
func smallest(numbers ...int) int {
	if len(numbers) == 0 {
		return 0
	}
	least := numbers[0]
	for _, n := range numbers {
		least = min(least, n)
	}
	return least
}
