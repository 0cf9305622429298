package relay_test

import (
	"math/rand"
	"slices"

	"glister/hill"
	"glister/relay"
)

// A second reading of the chapter: whether a station has the dispatch is asked back to the station from which it comes, and all lists of hops are tried.

func free(l hill.Land, from, to, kase, hour int) bool {
	reason, _, _ := hill.Why(l, from, to, kase, hour)
	return from != to && reason == hill.Free
}

// modelHas tells whether a station has the dispatch at the beginning of an hour, if another station (or None) is left out.
func modelHas(l hill.Land, from, start, kase, without, station, hour int) bool {
	if station == without || hour < start {
		return false
	}
	if station == from {
		return true
	}
	for sender := range l.Stations {
		if hour > start && free(l, sender, station, kase, hour-1) && modelHas(l, from, start, kase, without, sender, hour-1) {
			return true
		}
	}
	return hour > start && modelHas(l, from, start, kase, without, station, hour-1)
}

// modelEarliest returns the earliest hour of a station, or None.
func modelEarliest(l hill.Land, from, start, kase, without, station int) int {
	for hour := range len(l.Sun) + 1 {
		if modelHas(l, from, start, kase, without, station, hour) {
			return hour
		}
	}
	return relay.None
}

// modelSure returns the sure hour and the first case that has it, or None.
func modelSure(l hill.Land, from, to, start, without int) (hour, kase int) {
	for other := range l.Cases {
		h := modelEarliest(l, from, start, other, without, to)
		if h == relay.None {
			return relay.None, 0
		}
		if other == 0 || h > hour {
			hour, kase = h, other
		}
	}
	return hour, kase
}

func modelLatest(l hill.Land, from, to, by int) int {
	for start := len(l.Sun); start >= 0; start-- {
		if hour, _ := modelSure(l, from, to, start, relay.None); hour != relay.None && hour <= by {
			return start
		}
	}
	return relay.None
}

// firstStick returns the first case in which the hop does not work, or None.
func firstStick(l hill.Land, h relay.Hop) int {
	return slices.IndexFunc(upTo(len(l.Cases)), func(kase int) bool { return !free(l, h.From, h.To, kase, h.Hour) })
}

// eachRoute calls the test with all routes from a station to any one, those with hops that never work included.
func eachRoute(l hill.Land, from, start int, test func(route []relay.Hop, to, arrives int)) {
	var add func(route []relay.Hop, at, hour int)
	add = func(route []relay.Hop, at, hour int) {
		test(route, at, hour)
		for h := hour; h < len(l.Sun); h++ {
			for to := range l.Stations {
				add(append(slices.Clone(route), relay.Hop{From: at, To: to, Hour: h}), to, h+1)
			}
		}
	}
	add(nil, from, start)
}

// before tells whether a route is first among those that arrive as early with as many hops.
func before(a, b []relay.Hop) bool {
	for i := range a {
		if a[i].Hour != b[i].Hour {
			return a[i].Hour < b[i].Hour
		}
		if a[i].To != b[i].To {
			return a[i].To < b[i].To
		}
	}
	return false
}

// modelRoute returns the best route, and None as its arrival if there is none.
func modelRoute(l hill.Land, from, to, start int) ([]relay.Hop, int) {
	var best []relay.Hop
	earliest := relay.None
	eachRoute(l, from, start, func(route []relay.Hop, end, arrives int) {
		if end != to || slices.ContainsFunc(route, func(h relay.Hop) bool { return firstStick(l, h) >= 0 }) {
			return
		}
		if earliest == relay.None || arrives < earliest ||
			arrives == earliest && (len(route) < len(best) || len(route) == len(best) && before(route, best)) {
			best, earliest = route, arrives
		}
	})
	return best, earliest
}

// modelProves reads what a table must be, station by station and hour by hour.
func modelProves(l hill.Land, from, start, kase int, table []int) bool {
	if len(table) != len(l.Stations) || table[from] > start {
		return false
	}
	for a := range table {
		if table[a] < 0 || table[a] > len(l.Sun)+1 {
			return false
		}
		for b := range table {
			for hour := range l.Sun {
				if free(l, a, b, kase, hour) && hour >= table[a] && table[b] > hour+1 {
					return false
				}
			}
		}
	}
	return true
}

// upTo lists the numbers below n.
func upTo(n int) []int {
	var list []int
	for i := range n {
		list = append(list, i)
	}
	return list
}

// size is the edge of the square in which random places are.
const size = 7

func randomWall(r *rand.Rand) hill.Wall {
	for {
		w := hill.Wall{X1: r.Intn(size), Y1: r.Intn(size), X2: r.Intn(size), Y2: r.Intn(size), Top: r.Intn(12)}
		if w.X1 != w.X2 || w.Y1 != w.Y2 {
			return w
		}
	}
}

func randomCloud(r *rand.Rand, hours int) hill.Cloud {
	a, b := r.Intn(hours), r.Intn(hours)
	return hill.Cloud{Wall: randomWall(r), From: min(a, b), To: max(a, b)}
}

// randomLand makes a valid land with that many stations and hours.
func randomLand(r *rand.Rand, stations, hours int) hill.Land {
	var l hill.Land
	for _, p := range r.Perm(size * size)[:stations] {
		l.Stations = append(l.Stations, hill.Station{X: p % size, Y: p / size, Z: r.Intn(12), Mirrors: 1 + r.Intn(2)})
	}
	for range r.Intn(3) {
		l.Ridges = append(l.Ridges, randomWall(r))
	}
	for range hours {
		l.Sun = append(l.Sun, hill.Sun{East: r.Intn(5) - 2, North: r.Intn(5) - 2, Up: r.Intn(5)})
	}
	for range 1 + r.Intn(4) {
		var clouds []hill.Cloud
		for range r.Intn(5) {
			clouds = append(clouds, randomCloud(r, hours))
		}
		l.Cases = append(l.Cases, clouds)
	}
	return l
}

// clone copies a land with all its lists.
func clone(l hill.Land) hill.Land {
	l.Stations, l.Ridges, l.Cases, l.Sun = slices.Clone(l.Stations), slices.Clone(l.Ridges), slices.Clone(l.Cases), slices.Clone(l.Sun)
	for i := range l.Cases {
		l.Cases[i] = slices.Clone(l.Cases[i])
	}
	return l
}

// eachSmall calls the test with random lands that are small enough to try all routes, always the same ones.
func eachSmall(many int, test func(r *rand.Rand, l hill.Land)) {
	r := rand.New(rand.NewSource(3))
	for range many {
		test(r, randomLand(r, min(1+r.Intn(6), 4), 1+r.Intn(5)))
	}
}

// eachLand calls the test with random lands of any size, always the same ones.
func eachLand(many int, test func(r *rand.Rand, l hill.Land)) {
	r := rand.New(rand.NewSource(4))
	for range many {
		test(r, randomLand(r, 1+r.Intn(6), 1+r.Intn(12)))
	}
}

// eachDispatch calls the test with each two stations of a land, also equal ones, and each start.
func eachDispatch(l hill.Land, test func(from, to, start int)) {
	for from := range l.Stations {
		for to := range l.Stations {
			for start := range len(l.Sun) + 1 {
				test(from, to, start)
			}
		}
	}
}
