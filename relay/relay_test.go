package relay_test

import (
	"math"
	"math/rand"
	"reflect"
	"slices"
	"testing"

	"glister/api"
	"glister/hill"
	"glister/relay"
)

// four is the land of chapter 1 with one more sun.
func four() hill.Land {
	return hill.Land{
		Stations: []hill.Station{{X: 10, Y: 10, Z: 100, Mirrors: 1}, {X: 30, Y: 10, Z: 200, Mirrors: 1}, {X: 10, Y: 30, Z: 50, Mirrors: 2}},
		Ridges:   []hill.Wall{{X1: 20, Y1: 5, X2: 20, Y2: 15, Top: 149}},
		Cases:    [][]hill.Cloud{nil, {{Wall: hill.Wall{X1: 5, Y1: 20, X2: 25, Y2: 20, Top: 80}, From: 1, To: 2}}},
		Sun:      []hill.Sun{{East: 50}, {East: 50, Up: 20}, {East: -50, Up: 30}, {East: 50, Up: 5}},
	}
}

// open has that many stations, of which each can flash to each other one at each of that many hours.
func open(stations, hours int) hill.Land {
	l := hill.Land{Cases: make([][]hill.Cloud, 1)}
	for i := range stations {
		l.Stations = append(l.Stations, hill.Station{X: i, Y: i * i, Mirrors: 2})
	}
	for range hours {
		l.Sun = append(l.Sun, hill.Sun{Up: 1})
	}
	return l
}

func hop(from, to, hour int) relay.Hop { return relay.Hop{From: from, To: to, Hour: hour} }

func hops(list ...relay.Hop) []relay.Hop { return list }

// all has the results of each call that has an error; the hour is Start, or By.
func all(l hill.Land, from, to, hour, kase int, route []relay.Hop) []any {
	earliest, e1 := relay.Earliest(l, from, hour, kase)
	sure, last, e2 := relay.Sure(l, from, to, hour)
	stuck, e3 := relay.Stuck(l, from, to, hour)
	latest, e4 := relay.Latest(l, from, to, hour)
	vital, e5 := relay.Vital(l, from, to, hour)
	best, arrives, e6 := relay.Route(l, from, to, hour)
	at, where, e7 := relay.Stick(l, from, hour, route)
	return []any{earliest, e1, sure, last, e2, stuck, e3, latest, e4, vital, e5, best, arrives, e6, at, where, e7}
}

// errorsOf picks the errors from the results of all: Earliest, Sure, Stuck, Latest, Vital, Route, Stick.
func errorsOf(results []any) []api.Errno {
	var list []api.Errno
	for _, x := range results {
		if e, ok := x.(api.Errno); ok {
			list = append(list, e)
		}
	}
	return list
}

// failed checks that a call with an error has no other results.
func failed(t *testing.T, results []any) {
	t.Helper()
	var others []any
	for _, x := range results {
		e, ok := x.(api.Errno)
		if !ok {
			others = append(others, x)
			continue
		}
		for _, y := range others {
			if v := reflect.ValueOf(y); e != api.OK && (v.Kind() == reflect.Slice && v.Len() > 0 || v.Kind() == reflect.Int && v.Int() != 0) {
				t.Errorf("%v with %v in %v", y, e, results)
			}
		}
		others = nil
	}
}

// P3.1
func TestEarliest(t *testing.T) {
	for _, x := range []struct {
		from, start, kase int
		want              []int
	}{
		{0, 0, 0, []int{0, 2, 2}}, {0, 0, 1, []int{0, 2, 3}}, {0, 2, 1, []int{2, 4, 4}}, {0, 2, 0, []int{2, 4, 3}},
		{0, 3, 0, []int{3, 4, 4}}, {0, 4, 0, []int{4, -1, -1}}, {1, 3, 0, []int{-1, 3, -1}}, {2, 0, 1, []int{3, 2, 0}},
	} {
		if list, e := relay.Earliest(four(), x.from, x.start, x.kase); !slices.Equal(list, x.want) || e != api.OK {
			t.Errorf("Earliest from %d at %d, case %d: %v, %v, not %v", x.from, x.start, x.kase, list, e, x.want)
		}
	}
	if list, e := relay.Earliest(open(1, 1), 0, 1, 0); !slices.Equal(list, []int{1}) || e != api.OK {
		t.Errorf("Earliest of one station: %v, %v", list, e)
	}
}

// P3.1: a station flashes from the hour after that in which it got the dispatch.
func TestOneHopAnHour(t *testing.T) {
	l := open(6, 12)
	// Each two stations that are not next to each other have a ridge between them.
	for i := range l.Stations {
		l.Stations[i] = hill.Station{X: 20 * i, Y: 50, Mirrors: 2}
		if i > 0 && i < 5 {
			l.Ridges = append(l.Ridges, hill.Wall{X1: 20 * i, Y1: 49, X2: 20 * i, Y2: 51, Top: 1})
		}
	}
	for start := range 13 {
		want := []int{start}
		for i := 1; i < 6; i++ {
			h := start + i
			if h > 12 {
				h = relay.None
			}
			want = append(want, h)
		}
		if list, e := relay.Earliest(l, 0, start, 0); !slices.Equal(list, want) || e != api.OK {
			t.Errorf("Earliest at %d: %v, %v, not %v", start, list, e, want)
		}
	}
	if list, e := relay.Vital(l, 5, 1, 0); !slices.Equal(list, []int{2, 3, 4}) || e != api.OK {
		t.Errorf("Vital of a row of stations: %v, %v", list, e)
	}
	want := hops(hop(5, 4, 3), hop(4, 3, 4), hop(3, 2, 5), hop(2, 1, 6), hop(1, 0, 7))
	if list, arrives, e := relay.Route(l, 5, 0, 3); !slices.Equal(list, want) || arrives != 8 || e != api.OK {
		t.Errorf("Route over a row of stations: %v, %d, %v", list, arrives, e)
	}
	if start, e := relay.Latest(l, 0, 5, 12); start != 7 || e != api.OK {
		t.Errorf("Latest over a row of stations: %d, %v", start, e)
	}
}

// P3.2
func TestSureAndStuck(t *testing.T) {
	for _, x := range []struct {
		from, to, start, hour, kase int
		e                           api.Errno
		stuck                       []int
	}{
		{0, 2, 0, 3, 1, api.OK, nil}, {0, 1, 0, 2, 0, api.OK, nil}, {0, 2, 2, 4, 1, api.OK, nil}, {0, 2, 3, 4, 0, api.OK, nil},
		{0, 2, 4, 0, 0, api.ErrStuck, []int{0, 1}}, {1, 0, 2, 3, 0, api.OK, nil}, {1, 0, 3, 0, 0, api.ErrStuck, []int{0, 1}},
		{2, 2, 3, 3, 0, api.OK, nil}, {2, 2, 4, 4, 0, api.OK, nil},
	} {
		hour, kase, e := relay.Sure(four(), x.from, x.to, x.start)
		stuck, f := relay.Stuck(four(), x.from, x.to, x.start)
		if hour != x.hour || kase != x.kase || e != x.e || !slices.Equal(stuck, x.stuck) || f != api.OK {
			t.Errorf("Sure, Stuck from %d to %d at %d: %d, %d, %v; %v, %v", x.from, x.to, x.start, hour, kase, e, stuck, f)
		}
	}
	// Without the last sun the cloud stops what the station 0 has to send at 2.
	l := four()
	l.Sun = l.Sun[:3]
	if stuck, e := relay.Stuck(l, 0, 2, 2); !slices.Equal(stuck, []int{1}) || e != api.OK {
		t.Errorf("Stuck: %v, %v", stuck, e)
	}
	if hour, kase, e := relay.Sure(l, 0, 2, 2); hour != 0 || kase != 0 || e != api.ErrStuck {
		t.Errorf("Sure: %d, %d, %v", hour, kase, e)
	}
}

// P3.3
func TestLatestAndVital(t *testing.T) {
	for _, x := range []struct {
		from, to, by, want int
		e                  api.Errno
	}{
		{0, 2, 3, 1, api.OK}, {0, 2, 4, 3, api.OK}, {0, 2, 2, 0, api.ErrStuck}, {0, 2, 0, 0, api.ErrStuck}, {0, 1, 2, 1, api.OK}, {0, 1, 3, 1, api.OK},
		{1, 0, 4, 2, api.OK}, {1, 1, 0, 0, api.OK}, {1, 1, 4, 4, api.OK}, {1, 1, 2, 2, api.OK},
	} {
		if start, e := relay.Latest(four(), x.from, x.to, x.by); start != x.want || e != x.e {
			t.Errorf("Latest from %d to %d by %d: %d, %v", x.from, x.to, x.by, start, e)
		}
	}
	short := four()
	short.Sun = short.Sun[:3]
	for _, x := range []struct {
		l               hill.Land
		from, to, start int
		want            []int
		e               api.Errno
	}{
		{four(), 0, 2, 0, nil, api.OK}, {short, 0, 2, 0, []int{1}, api.OK}, {short, 0, 2, 2, nil, api.ErrStuck}, {short, 0, 2, 3, nil, api.ErrStuck},
		{short, 0, 0, 3, nil, api.OK}, {short, 2, 0, 0, []int{1}, api.OK},
	} {
		if list, e := relay.Vital(x.l, x.from, x.to, x.start); !slices.Equal(list, x.want) || e != x.e {
			t.Errorf("Vital from %d to %d at %d of %d hours: %v, %v", x.from, x.to, x.start, len(x.l.Sun), list, e)
		}
	}
}

// P3.4
func TestRoute(t *testing.T) {
	dark := open(4, 4)
	dark.Sun[1] = hill.Sun{}
	// The stations 0 and 3 do not see each other, but both see 1 and 2.
	apart := open(4, 4)
	apart.Stations = []hill.Station{{X: 0, Y: 10, Mirrors: 2}, {X: 20, Y: 0, Mirrors: 2}, {X: 20, Y: 20, Mirrors: 2}, {X: 40, Y: 10, Mirrors: 2}}
	apart.Ridges = []hill.Wall{{X1: 20, Y1: 9, X2: 20, Y2: 11}}
	for _, x := range []struct {
		l                        hill.Land
		from, to, start, arrives int
		want                     []relay.Hop
		e                        api.Errno
	}{
		{four(), 0, 2, 0, 3, hops(hop(0, 1, 1), hop(1, 2, 2)), api.OK}, {four(), 0, 2, 2, 4, hops(hop(0, 2, 3)), api.OK}, {four(), 0, 2, 4, 0, nil, api.ErrStuck},
		{four(), 0, 0, 2, 2, nil, api.OK}, {four(), 0, 0, 4, 4, nil, api.OK}, {four(), 1, 0, 3, 0, nil, api.ErrStuck},
		{dark, 0, 3, 0, 1, hops(hop(0, 3, 0)), api.OK}, {dark, 0, 3, 1, 3, hops(hop(0, 3, 2)), api.OK},
		{apart, 0, 3, 0, 2, hops(hop(0, 1, 0), hop(1, 3, 1)), api.OK}, {apart, 0, 3, 3, 0, nil, api.ErrStuck},
	} {
		if list, arrives, e := relay.Route(x.l, x.from, x.to, x.start); !slices.Equal(list, x.want) || arrives != x.arrives || e != x.e {
			t.Errorf("Route from %d to %d at %d: %v, %d, %v", x.from, x.to, x.start, list, arrives, e)
		}
	}
}

// detour is a land in which the station 0 sees 1 and 2, these see 3, and 3 sees 4; nothing else is seen over a station, and the clouds are there in each case.
func detour(clouds ...hill.Cloud) hill.Land {
	l := open(5, 4)
	l.Stations = []hill.Station{{X: 0, Y: 10, Mirrors: 2}, {X: 20, Y: 0, Mirrors: 2}, {X: 20, Y: 20, Mirrors: 2}, {X: 40, Y: 10, Mirrors: 2}, {X: 60, Y: 10, Mirrors: 2}}
	l.Ridges = []hill.Wall{{X1: 20, Y1: 9, X2: 20, Y2: 11}, {X1: 40, Y1: 4, X2: 40, Y2: 6}, {X1: 40, Y1: 14, X2: 40, Y2: 16}}
	l.Cases = [][]hill.Cloud{clouds, clouds}
	return l
}

// over is a cloud across a place, in the hours from and to.
func over(x, y, from, to int) hill.Cloud {
	return hill.Cloud{Wall: hill.Wall{X1: x, Y1: y - 1, X2: x, Y2: y + 1}, From: from, To: to}
}

// P3.4: of routes that arrive as early with as many hops the first one, hop by hop: the smaller Hour, then the smaller To.
func TestFirstOfTheBestRoutes(t *testing.T) {
	for _, x := range []struct {
		what string
		l    hill.Land
		to   int
		want []relay.Hop
	}{
		{"the smaller To", detour(), 4, hops(hop(0, 1, 0), hop(1, 3, 1), hop(3, 4, 2))},
		{"the smaller Hour before the smaller To", detour(over(10, 5, 0, 0), over(30, 5, 0, 1), over(30, 15, 0, 1)), 3, hops(hop(0, 2, 0), hop(2, 3, 2))},
		{"the smaller To of a hop before the smaller Hour of the next one", detour(over(30, 5, 1, 1), over(50, 10, 0, 2)), 4, hops(hop(0, 1, 0), hop(1, 3, 2), hop(3, 4, 3))},
		{"an early hop, though there is time", detour(over(30, 5, 0, 2), over(30, 15, 0, 2)), 3, hops(hop(0, 1, 0), hop(1, 3, 3))},
	} {
		route, arrives, e := relay.Route(x.l, 0, x.to, 0)
		if !slices.Equal(route, x.want) || e != api.OK || arrives != x.want[len(x.want)-1].Hour+1 {
			t.Errorf("%s: %v, %d, %v", x.what, route, arrives, e)
		}
		best, earliest := modelRoute(x.l, 0, x.to, 0)
		if !slices.Equal(best, x.want) || earliest != arrives {
			t.Errorf("%s, by trying all routes: %v, %d", x.what, best, earliest)
		}
	}
}

// P3.4: a dispatch surely comes through, but on another way in each case.
func TestNoFixedRoute(t *testing.T) {
	l := open(3, 1)
	l.Sun = append(l.Sun, hill.Sun{Up: 1})
	l.Stations = []hill.Station{{X: 10, Y: 10, Mirrors: 2}, {X: 20, Y: 10, Mirrors: 2}, {X: 10, Y: 20, Mirrors: 2}}
	direct := hill.Cloud{Wall: hill.Wall{X1: 5, Y1: 15, X2: 12, Y2: 15, Top: 1}, From: 0, To: 1}
	around := hill.Cloud{Wall: hill.Wall{X1: 15, Y1: 5, X2: 15, Y2: 12, Top: 1}, From: 0, To: 1}
	l.Cases = [][]hill.Cloud{{direct}, {around}}
	if hour, kase, e := relay.Sure(l, 0, 2, 0); hour != 2 || kase != 0 || e != api.OK {
		t.Errorf("Sure: %d, %d, %v", hour, kase, e)
	}
	if list, arrives, e := relay.Route(l, 0, 2, 0); list != nil || arrives != 0 || e != api.ErrStuck {
		t.Errorf("Route: %v, %d, %v", list, arrives, e)
	}
	if list, e := relay.Vital(l, 0, 2, 0); !slices.Equal(list, []int{1}) || e != api.OK {
		t.Errorf("Vital: %v, %v", list, e)
	}
}

// badRoutes are no routes for a dispatch that is at the station 0 of four at the hour 1.
func badRoutes() [][]relay.Hop {
	return [][]relay.Hop{
		hops(hop(1, 2, 2)), hops(hop(0, 1, 0)), hops(hop(0, 1, 4)), hops(hop(0, 1, -1)), hops(hop(0, 3, 1)), hops(hop(0, -1, 1)), hops(hop(3, 1, 1)), hops(hop(-1, 1, 1)),
		hops(hop(0, 1, 1), hop(0, 2, 2)), hops(hop(0, 1, 1), hop(1, 2, 1)), hops(hop(0, 1, 2), hop(1, 2, 1)), hops(hop(0, 1, 1), hop(1, 2, 4)), hops(hop(0, 1, 1), hop(1, 3, 2)),
		hops(hop(0, 1, math.MaxInt)), hops(hop(0, 1, math.MinInt)), hops(hop(0, math.MaxInt, 1), hop(math.MaxInt, 2, 2)), hops(hop(0, math.MinInt, 1)),
		// The hop before does not work, but this comes second.
		hops(hop(0, 0, 1), hop(1, 2, 2)), hops(hop(0, 2, 1), hop(2, 1, 1)),
	}
}

// P3.5
func TestStick(t *testing.T) {
	for _, x := range []struct {
		from, start int
		route       []relay.Hop
		hop, kase   int
		e           api.Errno
	}{
		{0, 1, hops(hop(0, 2, 1)), 0, 1, api.OK}, {0, 0, hops(hop(0, 1, 1), hop(1, 2, 2)), 0, 0, api.ErrNone}, {0, 0, nil, 0, 0, api.ErrNone}, {0, 4, hops(), 0, 0, api.ErrNone},
		{0, 0, hops(hop(0, 1, 0)), 0, 0, api.OK}, {0, 0, hops(hop(0, 1, 1), hop(1, 0, 2), hop(0, 2, 3)), 0, 0, api.ErrNone}, {0, 0, hops(hop(0, 1, 1), hop(1, 2, 3)), 1, 0, api.OK},
		{0, 0, hops(hop(0, 1, 1), hop(1, 0, 2), hop(0, 0, 3)), 2, 0, api.OK}, {0, 0, hops(hop(0, 0, 0), hop(0, 2, 1)), 0, 0, api.OK},
		// The first hop that does not work in some case, though a later one does not work in an earlier case.
		{0, 0, hops(hop(0, 2, 1), hop(2, 2, 2)), 0, 1, api.OK}, {2, 1, hops(hop(2, 0, 1)), 0, 1, api.OK},
		{0, 4, hops(hop(0, 1, 3)), 0, 0, api.ErrRange}, {0, 4, hops(hop(0, 1, 4)), 0, 0, api.ErrRange}, {0, 0, make([]relay.Hop, 12), 0, 0, api.ErrRange},
		{0, 0, make([]relay.Hop, 13), 0, 0, api.ErrLimit}, {0, 0, slices.Repeat(hops(hop(9, 9, 9)), 13), 0, 0, api.ErrLimit}, {3, 0, make([]relay.Hop, 13), 0, 0, api.ErrRange}, {0, 5, make([]relay.Hop, 13), 0, 0, api.ErrRange},
	} {
		if h, kase, e := relay.Stick(four(), x.from, x.start, x.route); h != x.hop || kase != x.kase || e != x.e {
			t.Errorf("Stick from %d at %d of %v: %d, %d, %v", x.from, x.start, x.route, h, kase, e)
		}
	}
	for _, route := range badRoutes() {
		if h, kase, e := relay.Stick(four(), 0, 1, route); h != 0 || kase != 0 || e != api.ErrRange {
			t.Errorf("Stick of %v: %d, %d, %v", route, h, kase, e)
		}
	}
}

// P3.4, P3.5: as many hops as a route can have.
func TestLongestRoute(t *testing.T) {
	l := open(2, 12)
	var route []relay.Hop
	for hour := range 12 {
		route = append(route, hop(hour%2, 1-hour%2, hour))
	}
	if h, kase, e := relay.Stick(l, 0, 0, route); h != 0 || kase != 0 || e != api.ErrNone {
		t.Errorf("Stick: %d, %d, %v", h, kase, e)
	}
	if !relay.ProveRoute(l, 0, 0, 0, route, 12) || relay.ProveRoute(l, 0, 0, 0, route, 11) || relay.ProveRoute(l, 0, 0, 0, append(route, hop(0, 1, 12)), 12) {
		t.Error("ProveRoute of 12 hops")
	}
}

// P3.4
func TestProveRoute(t *testing.T) {
	over := hops(hop(0, 1, 1), hop(1, 2, 2))
	for _, x := range []struct {
		from, to, start int
		route           []relay.Hop
		by              int
		want            bool
	}{
		{0, 2, 0, over, 3, true}, {0, 2, 0, over, 4, true}, {0, 2, 1, over, 3, true}, {0, 2, 0, over, 2, false}, {0, 2, 2, over, 3, false}, {0, 1, 0, over, 3, false}, {0, 0, 0, over, 3, false}, {1, 2, 0, over, 3, false},
		// By is an hour of the land, or the end.
		{0, 2, 0, over, 5, false}, {0, 2, 0, over, -1, false}, {0, 2, 0, over, math.MaxInt, false}, {0, 2, -1, over, 3, false}, {0, 2, 5, over, 3, false}, {0, 3, 0, over, 3, false}, {0, -1, 0, over, 3, false}, {3, 2, 0, over, 3, false}, {-1, 2, 0, over, 3, false},
		{0, 2, 0, hops(hop(0, 2, 1)), 4, false}, {0, 2, 0, hops(hop(0, 2, 3)), 4, true}, {0, 2, 0, hops(hop(0, 2, 0)), 4, false}, {0, 0, 0, hops(hop(0, 0, 1)), 4, false}, {0, 2, 0, over[:1], 3, false}, {0, 1, 0, over[:1], 2, true}, {0, 2, 0, hops(hop(0, 1, 1), hop(1, 2, 3)), 4, false},
		{1, 1, 2, nil, 2, true}, {1, 1, 2, nil, 4, true}, {1, 1, 2, nil, 1, false}, {1, 0, 2, nil, 4, false}, {1, 1, 4, nil, 4, true}, {1, 1, 5, nil, 4, false}, {3, 3, 0, nil, 4, false},
		{0, 0, 0, make([]relay.Hop, 13), 4, false},
	} {
		if ok := relay.ProveRoute(four(), x.from, x.to, x.start, x.route, x.by); ok != x.want {
			t.Errorf("ProveRoute from %d to %d at %d of %v by %d: %v", x.from, x.to, x.start, x.route, x.by, ok)
		}
	}
	for _, route := range badRoutes() {
		for to := range 3 {
			if relay.ProveRoute(four(), 0, to, 1, route, 4) {
				t.Errorf("ProveRoute of %v to %d", route, to)
			}
		}
	}
	if relay.ProveRoute(hill.Land{}, 0, 0, 0, nil, 0) {
		t.Error("ProveRoute without a land")
	}
}

// P3.6
func TestProveTable(t *testing.T) {
	for _, x := range []struct {
		from, start, kase int
		table             []int
		want              bool
	}{
		{0, 0, 0, []int{0, 2, 2}, true}, {0, 0, 0, []int{0, 2, 3}, false}, {0, 0, 1, []int{0, 2, 3}, true}, {0, 0, 1, []int{0, 2, 4}, false}, {0, 0, 1, []int{0, 1, 3}, true}, {0, 0, 1, []int{0, 0, 0}, true}, {0, 0, 1, []int{0, 3, 3}, false},
		{0, 1, 1, []int{1, 2, 3}, true}, {0, 1, 1, []int{2, 4, 4}, false}, {0, 2, 1, []int{2, 4, 4}, true}, {0, 2, 1, []int{2, 5, 4}, false}, {1, 3, 0, []int{5, 3, 5}, true}, {1, 3, 0, []int{5, 4, 5}, false}, {0, 4, 0, []int{4, 5, 5}, true}, {0, 4, 0, []int{5, 5, 5}, false},
		{0, 4, 0, []int{4, 6, 5}, false}, {0, 4, 0, []int{4, 5, 6}, false}, {0, 4, 0, []int{-1, 0, 0}, false}, {0, 4, 0, []int{0, 0, -1}, false}, {0, 4, 0, []int{0, 0, math.MinInt}, false}, {0, 4, 0, []int{math.MaxInt, 0, 0}, false},
		{0, 4, 0, []int{0, 0}, false}, {0, 4, 0, nil, false}, {0, 4, 0, make([]int, 4), false}, {0, 4, 0, make([]int, 7), false}, {0, 4, 0, make([]int, 3), true},
		{3, 4, 0, make([]int, 3), false}, {-1, 4, 0, make([]int, 3), false}, {3, 4, 0, make([]int, 4), false}, {0, 5, 0, make([]int, 3), false}, {0, -1, 0, make([]int, 3), false}, {0, 0, 2, make([]int, 3), false}, {0, 0, -1, make([]int, 3), false},
	} {
		if ok := relay.ProveTable(four(), x.from, x.start, x.kase, x.table); ok != x.want {
			t.Errorf("ProveTable from %d at %d, case %d, of %v: %v", x.from, x.start, x.kase, x.table, ok)
		}
	}
	if relay.ProveTable(hill.Land{}, 0, 0, 0, nil) {
		t.Error("ProveTable without a land")
	}
}

// P3.1 to P3.5: the errors of all calls, in their order.
func TestErrorsInOrder(t *testing.T) {
	long, bad := four(), four()
	long.Ridges = make([]hill.Wall, 7)
	bad.Sun[0].Up = 101
	none, noRange, noLimit, noArg := api.OK, api.ErrRange, api.ErrLimit, api.ErrArg
	for _, x := range []struct {
		what                 string
		l                    hill.Land
		from, to, hour, kase int
		route                []relay.Hop
		want                 []api.Errno
	}{
		{"a limit of the land", long, 9, 9, 9, 9, make([]relay.Hop, 13), slices.Repeat([]api.Errno{noLimit}, 7)},
		{"a land that is not valid", bad, 9, 9, 9, 9, make([]relay.Hop, 13), slices.Repeat([]api.Errno{noArg}, 7)},
		{"no land", hill.Land{}, 0, 0, 0, 0, nil, slices.Repeat([]api.Errno{noArg}, 7)},
		{"no station from", four(), 3, 0, 0, 0, make([]relay.Hop, 13), slices.Repeat([]api.Errno{noRange}, 7)},
		{"a station from below 0", four(), -1, 0, 0, 0, nil, slices.Repeat([]api.Errno{noRange}, 7)},
		{"no station to", four(), 0, 3, 0, 0, nil, []api.Errno{none, noRange, noRange, noRange, noRange, noRange, api.ErrNone}},
		{"a station to below 0", four(), 0, math.MinInt, 0, 0, nil, []api.Errno{none, noRange, noRange, noRange, noRange, noRange, api.ErrNone}},
		{"no case", four(), 0, 0, 0, 2, nil, []api.Errno{noRange, none, none, none, none, none, api.ErrNone}},
		{"a case below 0", four(), 0, 0, 0, -1, nil, []api.Errno{noRange, none, none, none, none, none, api.ErrNone}},
		{"an hour after the end", four(), 0, 0, 5, 0, make([]relay.Hop, 13), slices.Repeat([]api.Errno{noRange}, 7)},
		{"an hour below 0", four(), 0, 0, -1, 0, nil, slices.Repeat([]api.Errno{noRange}, 7)},
		{"the greatest numbers", four(), math.MaxInt, math.MaxInt, math.MaxInt, math.MaxInt, nil, slices.Repeat([]api.Errno{noRange}, 7)},
		{"the end", four(), 0, 1, 4, 0, nil, []api.Errno{none, api.ErrStuck, none, none, api.ErrStuck, api.ErrStuck, api.ErrNone}},
		{"too early", four(), 0, 1, 0, 0, nil, []api.Errno{none, none, none, api.ErrStuck, none, none, api.ErrNone}},
	} {
		results := all(x.l, x.from, x.to, x.hour, x.kase, x.route)
		if list := errorsOf(results); !slices.Equal(list, x.want) {
			t.Errorf("%s: %v, not %v", x.what, list, x.want)
		}
		failed(t, results)
	}
}

// P3.1 to P3.6: all calls on random lands.
func TestAsTheModel(t *testing.T) {
	routed, waited, apart, vitals := 0, 0, 0, 0
	eachSmall(300, func(r *rand.Rand, l hill.Land) {
		eachDispatch(l, func(from, to, start int) {
			kase := r.Intn(len(l.Cases))
			list, e := relay.Earliest(l, from, start, kase)
			if want := modelEarliest(l, from, start, kase, relay.None, to); e != api.OK || len(list) != len(l.Stations) || list[to] != want {
				t.Fatalf("%v: Earliest from %d at %d, case %d: %v, %v, not %d at %d", l, from, start, kase, list, e, want, to)
			}
			hour, last := modelSure(l, from, to, start, relay.None)
			sure, first, e := relay.Sure(l, from, to, start)
			if hour == relay.None && e != api.ErrStuck || hour != relay.None && (e != api.OK || sure != hour || first != last) {
				t.Fatalf("%v: Sure from %d to %d at %d: %d, %d, %v, not %d, %d", l, from, to, start, sure, first, e, hour, last)
			}
			stuck, e := relay.Stuck(l, from, to, start)
			if e != api.OK || slices.Contains(stuck, kase) != (list[to] == relay.None) || (len(stuck) > 0) != (hour == relay.None) {
				t.Fatalf("%v: Stuck from %d to %d at %d: %v, %v", l, from, to, start, stuck, e)
			}
			latest, e := relay.Latest(l, from, to, start)
			if want := modelLatest(l, from, to, start); want == relay.None && e != api.ErrStuck || want != relay.None && (e != api.OK || latest != want) {
				t.Fatalf("%v: Latest from %d to %d by %d: %d, %v, not %d", l, from, to, start, latest, e, want)
			}
			vital, e := relay.Vital(l, from, to, start)
			want := slices.DeleteFunc(upTo(len(l.Stations)), func(station int) bool {
				h, _ := modelSure(l, from, to, start, station)
				return station == from || station == to || h != relay.None
			})
			if hour == relay.None && e != api.ErrStuck || hour != relay.None && (e != api.OK || !slices.Equal(vital, want)) {
				t.Fatalf("%v: Vital from %d to %d at %d: %v, %v, not %v", l, from, to, start, vital, e, want)
			}
			route, arrives, e := relay.Route(l, from, to, start)
			best, earliest := modelRoute(l, from, to, start)
			if earliest == relay.None && e != api.ErrStuck || earliest != relay.None && (e != api.OK || arrives != earliest || !slices.Equal(route, best)) {
				t.Fatalf("%v: Route from %d to %d at %d: %v, %d, %v, not %v, %d", l, from, to, start, route, arrives, e, best, earliest)
			}
			if len(best) > 1 {
				routed++
			}
			if earliest > start+len(best) {
				waited++
			}
			if hour != relay.None && earliest > hour {
				apart++
			}
			vitals += len(vital)
		})
	})
	if routed < 100 || waited < 100 || apart < 10 || vitals < 50 {
		t.Errorf("only %d routes of several hops, %d that wait, %d that arrive after the sure hour; %d vital stations", routed, waited, apart, vitals)
	}
}

// P3.4, P3.5: any route.
func TestAnyRouteAsTheModel(t *testing.T) {
	works, fails := 0, 0
	eachSmall(300, func(r *rand.Rand, l hill.Land) {
		from, start := r.Intn(len(l.Stations)), r.Intn(len(l.Sun)+1)
		eachRoute(l, from, start, func(route []relay.Hop, end, arrives int) {
			if r.Intn(3) > 0 {
				return
			}
			i := slices.IndexFunc(route, func(h relay.Hop) bool { return firstStick(l, h) >= 0 })
			at, kase, e := relay.Stick(l, from, start, route)
			if i < 0 && e != api.ErrNone || i >= 0 && (e != api.OK || at != i || kase != firstStick(l, route[i])) {
				t.Fatalf("%v: Stick from %d at %d of %v: %d, %d, %v", l, from, start, route, at, kase, e)
			}
			to, by := r.Intn(len(l.Stations)), r.Intn(len(l.Sun)+1)
			if r.Intn(3) > 0 {
				to = end
			}
			if want := i < 0 && to == end && arrives <= by; relay.ProveRoute(l, from, to, start, route, by) != want {
				t.Fatalf("%v: ProveRoute from %d to %d at %d of %v by %d: not %v", l, from, to, start, route, by, want)
			} else if want {
				works++
			} else {
				fails++
			}
		})
	})
	if works < 50 || fails < 1000 {
		t.Errorf("only %d routes that are proved, %d that are not", works, fails)
	}
}

// R4: arguments are not written to, and results are in memory of their own.
func TestMemory(t *testing.T) {
	l, route, table := four(), hops(hop(0, 1, 1), hop(1, 2, 2)), []int{0, 2, 2}
	first := all(l, 0, 2, 0, 0, route)
	relay.ProveRoute(l, 0, 2, 0, route, 3)
	relay.ProveTable(l, 0, 0, 0, table)
	if !reflect.DeepEqual(l, four()) || !slices.Equal(route, hops(hop(0, 1, 1), hop(1, 2, 2))) || !slices.Equal(table, []int{0, 2, 2}) {
		t.Fatalf("arguments became %v, %v, %v", l, route, table)
	}
	first[0].([]int)[0] = 9
	first[11].([]relay.Hop)[0] = hop(9, 9, 9)
	if again := all(l, 0, 2, 0, 0, route); again[0].([]int)[0] != 0 || again[11].([]relay.Hop)[0] != hop(0, 1, 1) {
		t.Errorf("results became %v", again)
	}
}
