package relay_test

import (
	"math/rand"
	"slices"
	"testing"

	"glister/api"
	"glister/hill"
	"glister/relay"
)

// earliest returns the earliest hours of a valid call.
func earliest(t *testing.T, l hill.Land, from, start, kase int) []int {
	t.Helper()
	list, e := relay.Earliest(l, from, start, kase)
	if e != api.OK || len(list) != len(l.Stations) {
		t.Fatalf("%v: Earliest from %d at %d, case %d: %v, %v", l, from, start, kase, list, e)
	}
	return list
}

// worksIn tells whether all hops work in the case.
func worksIn(l hill.Land, route []relay.Hop, kase int) bool {
	return !slices.ContainsFunc(route, func(h relay.Hop) bool { return !free(l, h.From, h.To, kase, h.Hour) })
}

// tableOf makes a table of earliest hours.
func tableOf(l hill.Land, list []int) []int {
	table := slices.Clone(list)
	for i, h := range table {
		if h == relay.None {
			table[i] = len(l.Sun) + 1
		}
	}
	return table
}

// randomRoute makes a route that begins at a station, and returns where and when it arrives.
func randomRoute(r *rand.Rand, l hill.Land, from, start int) (route []relay.Hop, to, arrives int) {
	to, arrives = from, start
	for hour := start; hour < len(l.Sun); hour++ {
		if r.Intn(3) > 0 {
			continue
		}
		next := r.Intn(len(l.Stations))
		route = append(route, relay.Hop{From: to, To: next, Hour: hour})
		to, arrives = next, hour+1
	}
	return route, to, arrives
}

// P3.7: each station keeps the dispatch, and gets it when the first one flashes it.
func TestFromTheEarliestHourOn(t *testing.T) {
	came := 0
	eachLand(150, func(r *rand.Rand, l hill.Land) {
		from, start, kase := r.Intn(len(l.Stations)), r.Intn(len(l.Sun)+1), r.Intn(len(l.Cases))
		list := earliest(t, l, from, start, kase)
		has := make([]bool, len(list))
		has[from] = true
		for hour := start; hour <= len(l.Sun); hour++ {
			for station, h := range list {
				if has[station] != (h != relay.None && h <= hour) {
					t.Fatalf("%v: Earliest from %d at %d, case %d: %v, but at %d: %v", l, from, start, kase, list, hour, has)
				}
			}
			if hour == len(l.Sun) {
				break
			}
			now := slices.Clone(has)
			for station := range has {
				if !now[station] {
					continue
				}
				reached, _ := hill.Reach(l, station, kase, hour)
				for _, next := range reached {
					came++
					has[next] = true
				}
			}
		}
	})
	if came < 500 {
		t.Errorf("only %d flashes", came)
	}
}

// P3.7: no route is before the earliest hour, in the cases in which it works.
func TestNoRouteIsEarlier(t *testing.T) {
	worked := 0
	eachSmall(150, func(r *rand.Rand, l hill.Land) {
		from, start := r.Intn(len(l.Stations)), r.Intn(len(l.Sun)+1)
		for kase := range l.Cases {
			list := earliest(t, l, from, start, kase)
			eachRoute(l, from, start, func(route []relay.Hop, to, arrives int) {
				if !worksIn(l, route, kase) {
					return
				}
				worked++
				if list[to] == relay.None || arrives < list[to] {
					t.Fatalf("%v: Earliest from %d at %d, case %d: %v, but %v arrives at %d at %d", l, from, start, kase, list, route, to, arrives)
				}
			})
		}
	})
	if worked < 1000 {
		t.Errorf("only %d routes work", worked)
	}
}

// P3.8
func TestThrough(t *testing.T) {
	sure, stuck := 0, 0
	eachLand(30, func(r *rand.Rand, l hill.Land) {
		eachDispatch(l, func(from, to, start int) {
			hour, kase, e := relay.Sure(l, from, to, start)
			cases, f := relay.Stuck(l, from, to, start)
			if f != api.OK || (len(cases) == 0) != (e == api.OK) || len(cases) > 0 && e != api.ErrStuck {
				t.Fatalf("%v from %d to %d at %d: Sure %v, Stuck %v, %v", l, from, to, start, e, cases, f)
			}
			for k := range l.Cases {
				h := earliest(t, l, from, start, k)[to]
				if slices.Contains(cases, k) != (h == relay.None) {
					t.Fatalf("%v from %d to %d at %d: Stuck %v, the earliest hour in the case %d is %d", l, from, to, start, cases, k, h)
				}
				if e == api.OK && (h > hour || k == kase && h != hour || k < kase && h == hour) {
					t.Fatalf("%v from %d to %d at %d: Sure %d, %d, but %d in the case %d", l, from, to, start, hour, kase, h, k)
				}
			}
			if !slices.IsSorted(cases) {
				t.Fatalf("%v from %d to %d at %d: Stuck %v", l, from, to, start, cases)
			}
			if e == api.OK && from != to {
				sure++
			}
			if len(cases) > 0 && len(cases) < len(l.Cases) {
				stuck++
			}
		})
	})
	if sure < 300 || stuck < 30 {
		t.Errorf("only %d that surely come through, %d that stick in some cases only", sure, stuck)
	}
}

// P3.9: the best route and the sure hour, on lands of any size; any route is tried, too.
func TestQuicker(t *testing.T) {
	found, tried := 0, 0
	eachLand(60, func(r *rand.Rand, l hill.Land) {
		eachDispatch(l, func(from, to, start int) {
			route, arrives, e := relay.Route(l, from, to, start)
			if e == api.OK {
				found++
				hour, _, f := relay.Sure(l, from, to, start)
				if f != api.OK || arrives < hour || !relay.ProveRoute(l, from, to, start, route, arrives) || arrives > 0 && relay.ProveRoute(l, from, to, start, route, arrives-1) {
					t.Fatalf("%v from %d to %d at %d: Route %v, %d, Sure %d, %v", l, from, to, start, route, arrives, hour, f)
				}
			}
			other, end, at := randomRoute(r, l, from, start)
			if end != to || !relay.ProveRoute(l, from, to, start, other, at) {
				return
			}
			tried++
			if e != api.OK || at < arrives || at == arrives && len(other) < len(route) {
				t.Fatalf("%v from %d to %d at %d: Route %v, %d, %v, but %v arrives at %d", l, from, to, start, route, arrives, e, other, at)
			}
		})
	})
	if found < 500 || tried < 200 {
		t.Errorf("only %d best routes, %d other ones", found, tried)
	}
}

// P3.10
func TestTheLatestStart(t *testing.T) {
	found := 0
	eachLand(40, func(r *rand.Rand, l hill.Land) {
		from, to, end := r.Intn(len(l.Stations)), r.Intn(len(l.Stations)), len(l.Sun)
		var hours []int // the sure hours of all starts; the end plus 1 if there is none
		for start := range end + 1 {
			hour, _, e := relay.Sure(l, from, to, start)
			if e != api.OK {
				hour = end + 1
			}
			hours = append(hours, hour)
		}
		for by := range end + 1 {
			latest, e := relay.Latest(l, from, to, by)
			if e == api.ErrStuck {
				latest = relay.None
			} else if from != to {
				found++
			}
			for start, hour := range hours {
				if (hour <= by) != (start <= latest) {
					t.Fatalf("%v from %d to %d by %d: Latest %d, %v, but at %d: %d", l, from, to, by, latest, e, start, hour)
				}
			}
		}
	})
	if found < 50 {
		t.Errorf("only %d latest starts", found)
	}
}

// P3.11: the table of the earliest hours proves, one with a greater number does not.
func TestProved(t *testing.T) {
	greater := 0
	eachLand(100, func(r *rand.Rand, l hill.Land) {
		from, start, kase := r.Intn(len(l.Stations)), r.Intn(len(l.Sun)+1), r.Intn(len(l.Cases))
		table := tableOf(l, earliest(t, l, from, start, kase))
		if !relay.ProveTable(l, from, start, kase, table) {
			t.Fatalf("%v from %d at %d, case %d: %v does not prove", l, from, start, kase, table)
		}
		for station := range table {
			if table[station] > len(l.Sun) {
				continue
			}
			greater++
			more := slices.Clone(table)
			more[station]++
			if relay.ProveTable(l, from, start, kase, more) {
				t.Fatalf("%v from %d at %d, case %d: %v proves, with the earliest hours %v", l, from, start, kase, more, table)
			}
		}
	})
	if greater < 100 {
		t.Errorf("only %d numbers", greater)
	}
}

// P3.6, P3.11: any table of a small land.
func TestAnyTable(t *testing.T) {
	proved := 0
	eachSmall(200, func(r *rand.Rand, l hill.Land) {
		if len(l.Stations) > 3 || len(l.Sun) > 4 {
			return
		}
		from, start, kase := r.Intn(len(l.Stations)), r.Intn(len(l.Sun)+1), r.Intn(len(l.Cases))
		most := tableOf(l, earliest(t, l, from, start, kase))
		var try func(table []int)
		try = func(table []int) {
			if len(table) < len(l.Stations) {
				for n := -1; n <= len(l.Sun)+2; n++ {
					try(append(slices.Clone(table), n))
				}
				return
			}
			ok := relay.ProveTable(l, from, start, kase, table)
			if ok != modelProves(l, from, start, kase, table) {
				t.Fatalf("%v: ProveTable from %d at %d, case %d, of %v: %v", l, from, start, kase, table, ok)
			}
			for station, n := range table {
				if ok && n > most[station] {
					t.Fatalf("%v: %v proves from %d at %d, case %d, with the earliest hours %v", l, table, from, start, kase, most)
				}
			}
			if ok {
				proved++
			}
		}
		try(nil)
	})
	if proved < 500 {
		t.Errorf("only %d tables prove", proved)
	}
}

// P3.12
func TestWhereItSticks(t *testing.T) {
	later, whole := 0, 0
	eachLand(150, func(r *rand.Rand, l hill.Land) {
		eachDispatch(l, func(from, _, start int) {
			route, to, arrives := randomRoute(r, l, from, start)
			hop, kase, e := relay.Stick(l, from, start, route)
			if e == api.ErrNone {
				if !relay.ProveRoute(l, from, to, start, route, arrives) {
					t.Fatalf("%v: %v never sticks, and is not proved from %d to %d at %d by %d", l, route, from, to, start, arrives)
				}
				whole += len(route)
				return
			}
			if e != api.OK || free(l, route[hop].From, route[hop].To, kase, route[hop].Hour) {
				t.Fatalf("%v: Stick from %d at %d of %v: %d, %d, %v", l, from, start, route, hop, kase, e)
			}
			for k := range l.Cases {
				if !worksIn(l, route[:hop], k) || k < kase && !worksIn(l, route[:hop+1], k) {
					t.Fatalf("%v: Stick from %d at %d of %v: %d, %d, but not all works in the case %d", l, from, start, route, hop, kase, k)
				}
			}
			if relay.ProveRoute(l, from, to, start, route, arrives) {
				t.Fatalf("%v: %v sticks, and is proved from %d at %d", l, route, from, start)
			}
			if hop > 0 && kase > 0 {
				later++
			}
		})
	})
	if later < 20 || whole < 500 {
		t.Errorf("only %d routes that stick later, %d hops that never do", later, whole)
	}
}

// withoutStation is the land without a station, and the number that each other station has in it.
func withoutStation(l hill.Land, station int) (hill.Land, func(int) int) {
	l = clone(l)
	l.Stations = slices.Delete(l.Stations, station, station+1)
	return l, func(n int) int {
		if n > station {
			return n - 1
		}
		return n
	}
}

// P3.13
func TestVital(t *testing.T) {
	vital, others := 0, 0
	eachLand(30, func(r *rand.Rand, l hill.Land) {
		eachDispatch(l, func(from, to, start int) {
			list, e := relay.Vital(l, from, to, start)
			if _, _, f := relay.Sure(l, from, to, start); e != f {
				t.Fatalf("%v from %d to %d at %d: Vital %v, Sure %v", l, from, to, start, e, f)
			}
			if e != api.OK {
				return
			}
			if !slices.IsSorted(list) || slices.Contains(list, from) || slices.Contains(list, to) {
				t.Fatalf("%v from %d to %d at %d: Vital %v", l, from, to, start, list)
			}
			for station := range l.Stations {
				if station == from || station == to {
					continue
				}
				other, number := withoutStation(l, station)
				cases, f := relay.Stuck(other, number(from), number(to), start)
				if f != api.OK || slices.Contains(list, station) != (len(cases) > 0) {
					t.Fatalf("%v from %d to %d at %d: Vital %v, but without %d stuck in %v, %v", l, from, to, start, list, station, cases, f)
				}
				others++
			}
			vital += len(list)
		})
	})
	if vital < 30 || others < 500 {
		t.Errorf("only %d vital stations, %d stations in all", vital, others)
	}
}

// P3.14: with one more wall nothing is earlier.
func TestMoreWalls(t *testing.T) {
	later := 0
	eachLand(80, func(r *rand.Rand, l hill.Land) {
		ridged, clouded := clone(l), clone(l)
		ridged.Ridges = append(ridged.Ridges, randomWall(r))
		changed := r.Intn(len(l.Cases))
		if len(l.Cases[changed]) == api.MaxHillClouds {
			return
		}
		clouded.Cases[changed] = append(clouded.Cases[changed], randomCloud(r, len(l.Sun)))
		for _, other := range []hill.Land{ridged, clouded} {
			eachDispatch(l, func(from, to, start int) {
				kase := r.Intn(len(l.Cases))
				a, b := tableOf(l, earliest(t, l, from, start, kase))[to], tableOf(l, earliest(t, other, from, start, kase))[to]
				_, m, e := relay.Route(l, from, to, start)
				_, n, f := relay.Route(other, from, to, start)
				if b < a || f == api.OK && (e != api.OK || n < m) {
					t.Fatalf("%v from %d to %d at %d: %d, %d, %v, with one more wall, %v: %d, %d, %v", l, from, to, start, a, m, e, other, b, n, f)
				}
				if b > a || f != e || n > m {
					later++
				}
			})
		}
	})
	if later < 50 {
		t.Errorf("only %d later ones", later)
	}
}

// P3.14: one case alone.
func TestOneCase(t *testing.T) {
	eachLand(60, func(r *rand.Rand, l hill.Land) {
		kase := r.Intn(len(l.Cases))
		alone := clone(l)
		alone.Cases = alone.Cases[kase : kase+1]
		eachDispatch(l, func(from, to, start int) {
			want := earliest(t, l, from, start, kase)[to]
			hour, first, e := relay.Sure(alone, from, to, start)
			if want == relay.None && e != api.ErrStuck || want != relay.None && (e != api.OK || hour != want || first != 0) {
				t.Fatalf("%v from %d to %d at %d in the case %d: Sure %d, %d, %v, not %d", l, from, to, start, kase, hour, first, e, want)
			}
			_, arrives, f := relay.Route(alone, from, to, start)
			if f != e || arrives != hour {
				t.Fatalf("%v from %d to %d at %d in the case %d: Route %d, %v, Sure %d, %v", l, from, to, start, kase, arrives, f, hour, e)
			}
		})
	})
}

// P3.15
func TestBothEnds(t *testing.T) {
	eachLand(60, func(r *rand.Rand, l hill.Land) {
		for station := range l.Stations {
			for start := range len(l.Sun) + 1 {
				hour, kase, e := relay.Sure(l, station, station, start)
				latest, f := relay.Latest(l, station, station, start)
				route, arrives, g := relay.Route(l, station, station, start)
				vital, h := relay.Vital(l, station, station, start)
				if e != api.OK || f != api.OK || g != api.OK || h != api.OK || hour != start || kase != 0 || latest != start || len(route) > 0 || arrives != start || len(vital) > 0 {
					t.Fatalf("%v at %d at %d: Sure %d, %d, %v; Latest %d, %v; Route %v, %d, %v; Vital %v, %v", l, station, start, hour, kase, e, latest, f, route, arrives, g, vital, h)
				}
				if earliest(t, l, station, start, 0)[station] != start || !relay.ProveRoute(l, station, station, start, nil, start) {
					t.Fatalf("%v at %d at %d", l, station, start)
				}
			}
		}
	})
}
