package hill_test

import (
	"math"
	"math/rand"
	"reflect"
	"slices"
	"testing"

	"glister/api"
	"glister/hill"
)

// three is the land of the chapter's examples, whose ridge has a given Top.
func three(top int) hill.Land {
	return hill.Land{
		Stations: []hill.Station{{X: 10, Y: 10, Z: 100, Mirrors: 1}, {X: 30, Y: 10, Z: 200, Mirrors: 1}, {X: 10, Y: 30, Z: 50, Mirrors: 2}},
		Ridges:   []hill.Wall{{X1: 20, Y1: 5, X2: 20, Y2: 15, Top: top}},
		Cases:    [][]hill.Cloud{nil, {{Wall: hill.Wall{X1: 5, Y1: 20, X2: 25, Y2: 20, Top: 80}, From: 1, To: 2}}},
		Sun:      []hill.Sun{{East: 50}, {East: 50, Up: 20}, {East: -50, Up: 30}},
	}
}

// all has the results of each call; a call that needs fewer arguments leaves the others out.
func all(l hill.Land, from, to, kase, hour int) []any {
	reason, wall, e1 := hill.Why(l, from, to, kase, hour)
	ridges, clouds, e2 := hill.Walls(l, from, to, kase, hour)
	hours, e3 := hill.Hours(l, from, to, kase)
	always, e4 := hill.Always(l, from, to)
	stick, e5 := hill.Stick(l, from, to, hour)
	reach, e6 := hill.Reach(l, from, kase, hour)
	mirrors, e7 := hill.Mirrors(l, from, to, hour)
	rise, e8 := hill.Rise(l, from, to)
	return []any{reason, wall, e1, ridges, clouds, e2, hours, e3, always, e4, stick, e5, reach, e6, mirrors, e7, rise, e8}
}

// errorsOf picks the errors from the results of all.
func errorsOf(results []any) []api.Errno {
	var list []api.Errno
	for _, x := range results {
		if e, ok := x.(api.Errno); ok {
			list = append(list, e)
		}
	}
	return list
}

// P1.1
func TestWhyExamples(t *testing.T) {
	for _, x := range []struct {
		from, to, kase, hour int
		reason               uint8
	}{
		{0, 1, 0, 0, hill.Night}, {0, 1, 0, 1, hill.Free}, {0, 1, 0, 2, hill.Behind},
		{0, 2, 0, 1, hill.Free}, {0, 2, 1, 1, hill.CloudBlocks},
		{1, 2, 1, 1, hill.Behind}, {1, 2, 1, 2, hill.Free},
	} {
		if reason, wall, e := hill.Why(three(149), x.from, x.to, x.kase, x.hour); reason != x.reason || wall != 0 || e != api.OK {
			t.Errorf("Why %+v: %d, %d, %v", x, reason, wall, e)
		}
	}
	if reason, _, _ := hill.Why(three(150), 0, 1, 0, 1); reason != hill.RidgeBlocks {
		t.Errorf("a ridge as high as the line: %d", reason)
	}
}

// P1.1: the index of the first wall that blocks, and 0 with any other reason.
func TestWhyNamesTheFirstWall(t *testing.T) {
	wide := func(base, top int) hill.Wall {
		return hill.Wall{X1: 20, Y1: 0, X2: 20, Y2: 40, Base: base, Top: top}
	}
	l := three(149)
	l.Ridges = append(l.Ridges, wide(0, 149), wide(0, 150), wide(0, 151))
	if reason, wall, _ := hill.Why(l, 0, 1, 0, 1); reason != hill.RidgeBlocks || wall != 2 {
		t.Errorf("ridges: %d, %d", reason, wall)
	}
	if reason, wall, _ := hill.Why(l, 0, 1, 0, 0); reason != hill.Night || wall != 0 {
		t.Errorf("ridges at night: %d, %d", reason, wall)
	}
	if reason, wall, _ := hill.Why(l, 0, 1, 0, 2); reason != hill.Behind || wall != 0 {
		t.Errorf("ridges, and the sun behind: %d, %d", reason, wall)
	}
	l = three(149)
	l.Cases[0] = []hill.Cloud{{Wall: wide(150, 150), From: 0, To: 0}, {Wall: wide(151, 151), From: 1, To: 1}, {Wall: wide(150, 150), From: 1, To: 1}}
	if reason, wall, _ := hill.Why(l, 0, 1, 0, 1); reason != hill.CloudBlocks || wall != 2 {
		t.Errorf("clouds: %d, %d", reason, wall)
	}
	l.Ridges = append(l.Ridges, wide(0, 150))
	if reason, wall, _ := hill.Why(l, 0, 1, 0, 1); reason != hill.RidgeBlocks || wall != 1 {
		t.Errorf("a ridge comes before a cloud: %d, %d", reason, wall)
	}
}

// P1.1: places at which a wall just crosses, or just does not.
func TestCrossing(t *testing.T) {
	for _, x := range []struct {
		what string
		wall hill.Wall
		want bool
	}{
		{"an end on the line", hill.Wall{X1: 20, Y1: 10, X2: 20, Y2: 40, Top: 1000}, true},
		{"beside the line", hill.Wall{X1: 20, Y1: 11, X2: 20, Y2: 40, Top: 1000}, false},
		{"along the line", hill.Wall{X1: 15, Y1: 10, X2: 25, Y2: 10, Top: 1000}, false},
		{"through the first station", hill.Wall{X1: 10, Y1: 0, X2: 10, Y2: 40, Top: 1000}, false},
		{"through the second station", hill.Wall{X1: 30, Y1: 0, X2: 30, Y2: 40, Top: 1000}, false},
		{"behind the second station", hill.Wall{X1: 31, Y1: 0, X2: 31, Y2: 40, Top: 1000}, false},
		{"askew", hill.Wall{X1: 11, Y1: 0, X2: 29, Y2: 20, Top: 1000}, true},
		{"right over it", hill.Wall{X1: 20, Y1: 0, X2: 20, Y2: 40, Base: 151, Top: 1000}, false},
		{"from its height on", hill.Wall{X1: 20, Y1: 0, X2: 20, Y2: 40, Base: 150, Top: 1000}, true},
		{"up to its height", hill.Wall{X1: 20, Y1: 0, X2: 20, Y2: 40, Top: 150}, true},
		{"right under it", hill.Wall{X1: 20, Y1: 0, X2: 20, Y2: 40, Top: 149}, false},
		{"under a fraction", hill.Wall{X1: 14, Y1: 8, X2: 15, Y2: 13, Top: 121}, false},
		{"over a fraction", hill.Wall{X1: 14, Y1: 8, X2: 15, Y2: 13, Base: 123, Top: 1000}, false},
		{"around a fraction", hill.Wall{X1: 14, Y1: 8, X2: 15, Y2: 13, Base: 121, Top: 123}, true},
	} {
		l := three(0)
		l.Ridges, l.Cases[0] = nil, []hill.Cloud{{Wall: x.wall, From: 0, To: 2}}
		if reason, _, e := hill.Why(l, 0, 1, 0, 1); (reason == hill.CloudBlocks) != x.want || e != api.OK {
			t.Errorf("%s: %d, %v", x.what, reason, e)
		}
	}
}

// P1.2
func TestWalls(t *testing.T) {
	l := three(150)
	wall := func(top int) hill.Wall { return hill.Wall{X1: 15, Y1: 0, X2: 15, Y2: 40, Top: top} }
	l.Ridges = append(l.Ridges, wall(124), wall(125))
	l.Cases[0] = []hill.Cloud{{Wall: wall(124), From: 0, To: 2}, {Wall: wall(130), From: 0, To: 2}, {Wall: wall(131), From: 1, To: 1}, {Wall: wall(132), From: 2, To: 2}}
	for hour, want := range [][]int{{1}, {1, 2}, {1, 3}} {
		ridges, clouds, e := hill.Walls(l, 0, 1, 0, hour)
		if !slices.Equal(ridges, []int{0, 2}) || !slices.Equal(clouds, want) || e != api.OK {
			t.Errorf("Walls at %d: %v, %v, %v", hour, ridges, clouds, e)
		}
	}
}

// P1.3
func TestHoursExamples(t *testing.T) {
	l := three(149)
	for kase, want := range [][]int{{1, 2}, nil} {
		if h, e := hill.Hours(l, 0, 2, kase); !slices.Equal(h, want) || e != api.OK {
			t.Errorf("Hours, case %d: %v, %v", kase, h, e)
		}
	}
	if h, e := hill.Always(l, 0, 2); len(h) != 0 || e != api.OK {
		t.Errorf("Always: %v, %v", h, e)
	}
	if h, e := hill.Always(l, 2, 1); !slices.Equal(h, []int{1, 2}) || e != api.OK {
		t.Errorf("Always: %v, %v", h, e)
	}
	if kase, e := hill.Stick(l, 0, 2, 1); kase != 1 || e != api.OK {
		t.Errorf("Stick: %d, %v", kase, e)
	}
	if kase, e := hill.Stick(l, 2, 1, 1); kase != 0 || e != api.ErrNone {
		t.Errorf("Stick of a line that is free: %d, %v", kase, e)
	}
}

// P1.4
func TestReachExamples(t *testing.T) {
	for _, x := range []struct {
		from, kase, hour int
		want             []int
	}{{0, 0, 1, []int{1, 2}}, {0, 1, 1, []int{1}}, {1, 0, 2, []int{0, 2}}, {2, 0, 0, nil}} {
		if l, e := hill.Reach(three(149), x.from, x.kase, x.hour); !slices.Equal(l, x.want) || e != api.OK {
			t.Errorf("Reach %+v: %v, %v", x, l, e)
		}
	}
	alone := three(149)
	alone.Stations = alone.Stations[:1]
	if l, e := hill.Reach(alone, 0, 0, 1); len(l) != 0 || e != api.OK {
		t.Errorf("Reach of the only station: %v, %v", l, e)
	}
}

// P1.5
func TestMirrorsExamples(t *testing.T) {
	for hour, want := range []int{0, 1, 2} {
		e := api.OK
		if hour == 0 {
			e = api.ErrNone
		}
		if n, f := hill.Mirrors(three(149), 2, 1, hour); n != want || f != e {
			t.Errorf("Mirrors at %d: %d, %v", hour, n, f)
		}
	}
	// The sun is neither before nor behind; it does not matter that a ridge blocks, nor how many mirrors there are.
	if n, e := hill.Mirrors(three(1000), 0, 2, 2); n != 1 || e != api.OK {
		t.Errorf("Mirrors with the sun at the side: %d, %v", n, e)
	}
	if n, e := hill.Mirrors(three(1000), 0, 1, 2); n != 2 || e != api.OK {
		t.Errorf("Mirrors with the sun behind: %d, %v", n, e)
	}
}

// P1.6
func TestRiseExamples(t *testing.T) {
	far := three(195)
	far.Ridges[0].X1, far.Ridges[0].X2 = 29, 29
	for _, x := range []struct {
		l        hill.Land
		from, to int
		want     int
		e        api.Errno
	}{
		{three(149), 0, 1, 0, api.OK}, {three(159), 0, 1, 19, api.OK}, {three(159), 1, 0, 19, api.OK},
		{three(599), 0, 1, 899, api.OK}, {three(600), 0, 1, 0, api.ErrFail}, {three(549), 1, 0, 799, api.OK}, {three(550), 1, 0, 0, api.ErrFail},
		{far, 0, 1, 1, api.OK}, {far, 1, 0, 1, api.OK}, {three(600), 0, 2, 0, api.OK},
	} {
		if n, e := hill.Rise(x.l, x.from, x.to); n != x.want || e != x.e {
			t.Errorf("Rise of %v from %d to %d: %d, %v", x.l.Ridges, x.from, x.to, n, e)
		}
	}
}

// P1.6: sun and clouds are left out.
func TestRiseLeavesOutClouds(t *testing.T) {
	l := three(149)
	l.Sun = []hill.Sun{{Up: -100}}
	l.Cases = [][]hill.Cloud{{{Wall: hill.Wall{X1: 20, Y1: 0, X2: 20, Y2: 40, Top: 1000}}}}
	if n, e := hill.Rise(l, 0, 1); n != 0 || e != api.OK {
		t.Errorf("Rise under a cloud at night: %d, %v", n, e)
	}
}

// P1.1 to P1.6: all calls against the second reading of the chapter.
func TestModel(t *testing.T) {
	reasons := map[uint8]int{}
	eachLand(300, func(r *rand.Rand, l hill.Land) {
		if e := hill.CheckLand(l); e != api.OK {
			t.Fatalf("CheckLand of %v: %v", l, e)
		}
		eachSight(l, func(from, to, kase, hour int) {
			reason, wall := modelWhy(l, from, to, kase, hour)
			reasons[reason]++
			if a, b, e := hill.Why(l, from, to, kase, hour); a != reason || b != wall || e != api.OK {
				t.Fatalf("Why of %v, %d, %d, %d, %d: %d, %d, %v", l, from, to, kase, hour, a, b, e)
			}
			ridges, clouds := modelWalls(l, from, to, kase, hour)
			if a, b, e := hill.Walls(l, from, to, kase, hour); !slices.Equal(a, ridges) || !slices.Equal(b, clouds) || e != api.OK {
				t.Fatalf("Walls of %v, %d, %d, %d, %d: %v, %v, %v", l, from, to, kase, hour, a, b, e)
			}
			reached := those(len(l.Stations), func(s int) bool { return s != from && modelFree(l, from, s, kase, hour) })
			if a, e := hill.Reach(l, from, kase, hour); !slices.Equal(a, reached) || e != api.OK {
				t.Fatalf("Reach of %v, %d, %d, %d: %v, %v", l, from, kase, hour, a, e)
			}
		})
		eachPair(l, func(from, to int) { comparePair(t, l, from, to) })
	})
	for reason := hill.Free; reason <= hill.CloudBlocks; reason++ {
		if reasons[reason] < 100 {
			t.Errorf("the reason %d: only %d lines of sight", reason, reasons[reason])
		}
	}
}

// comparePair compares the calls that are about two stations with the model.
func comparePair(t *testing.T, l hill.Land, from, to int) {
	for kase := range l.Cases {
		want := those(len(l.Sun), func(hour int) bool { return modelFree(l, from, to, kase, hour) })
		if h, e := hill.Hours(l, from, to, kase); !slices.Equal(h, want) || e != api.OK {
			t.Fatalf("Hours of %v, %d, %d, %d: %v, %v", l, from, to, kase, h, e)
		}
	}
	var always []int
	for hour := range l.Sun {
		stuck := those(len(l.Cases), func(kase int) bool { return !modelFree(l, from, to, kase, hour) })
		kase, e := hill.Stick(l, from, to, hour)
		if len(stuck) == 0 {
			always = append(always, hour)
			if kase != 0 || e != api.ErrNone {
				t.Fatalf("Stick of %v, %d, %d, %d: %d, %v", l, from, to, hour, kase, e)
			}
		} else if kase != stuck[0] || e != api.OK {
			t.Fatalf("Stick of %v, %d, %d, %d: %d, %v", l, from, to, hour, kase, e)
		}
		mirrors, want := 0, api.ErrNone
		if l.Sun[hour].Up > 0 {
			mirrors, want = 1, api.OK
			if modelBehind(l, from, to, hour) {
				mirrors = 2
			}
		}
		if n, e := hill.Mirrors(l, from, to, hour); n != mirrors || e != want {
			t.Fatalf("Mirrors of %v, %d, %d, %d: %d, %v", l, from, to, hour, n, e)
		}
	}
	if h, e := hill.Always(l, from, to); !slices.Equal(h, always) || e != api.OK {
		t.Fatalf("Always of %v, %d, %d: %v, %v", l, from, to, h, e)
	}
	rise, want := modelRise(l, from, to), api.OK
	if rise < 0 {
		rise, want = 0, api.ErrFail
	}
	if n, e := hill.Rise(l, from, to); n != rise || e != want {
		t.Fatalf("Rise of %v, %d, %d: %d, %v", l, from, to, n, e)
	}
}

// Lands with heights and places as far apart as they can be.
func TestModelOfWideLands(t *testing.T) {
	r := rand.New(rand.NewSource(2))
	place := func() int { return []int{0, 1, 50, 99, 100}[r.Intn(5)] }
	for range 2000 {
		l := three(r.Intn(1001))
		for i := range l.Stations[:2] {
			l.Stations[i] = hill.Station{X: place(), Y: 10*i + r.Intn(10), Z: r.Intn(1001), Mirrors: 1}
		}
		l.Ridges[0] = hill.Wall{X1: place(), Y1: r.Intn(30), X2: place(), Y2: 30 + r.Intn(71), Top: r.Intn(1001)}
		if e := hill.CheckLand(l); e == api.OK {
			eachPair(l, func(from, to int) { comparePair(t, l, from, to) })
		}
	}
}

// P1.1: what is, and what is not, a valid land.
func TestCheckLand(t *testing.T) {
	for _, x := range []struct {
		what   string
		change func(l *hill.Land)
		want   api.Errno
	}{
		{"as it is", func(l *hill.Land) {}, api.OK},
		{"7 stations", func(l *hill.Land) { l.Stations = make([]hill.Station, 7) }, api.ErrLimit},
		{"7 ridges", func(l *hill.Land) { l.Ridges = make([]hill.Wall, 7) }, api.ErrLimit},
		{"5 cases", func(l *hill.Land) { l.Cases = make([][]hill.Cloud, 5) }, api.ErrLimit},
		{"5 clouds in the last case", func(l *hill.Land) { l.Cases[1] = make([]hill.Cloud, 5) }, api.ErrLimit},
		{"13 hours", func(l *hill.Land) { l.Sun = make([]hill.Sun, 13) }, api.ErrLimit},
		{"5 clouds and no station", func(l *hill.Land) { l.Stations, l.Cases[0] = nil, make([]hill.Cloud, 5) }, api.ErrLimit},
		{"no station", func(l *hill.Land) { l.Stations = nil }, api.ErrArg},
		{"no ridge", func(l *hill.Land) { l.Ridges = nil }, api.OK},
		{"no case", func(l *hill.Land) { l.Cases = nil }, api.ErrArg},
		{"no hour", func(l *hill.Land) { l.Sun, l.Cases[1] = nil, nil }, api.ErrArg},
		{"one station", func(l *hill.Land) { l.Stations = l.Stations[:1] }, api.OK},
		{"X too small", func(l *hill.Land) { l.Stations[2].X = -1 }, api.ErrArg},
		{"X smallest", func(l *hill.Land) { l.Stations[2].X = 0 }, api.OK},
		{"X greatest", func(l *hill.Land) { l.Stations[2].X = 100 }, api.OK},
		{"X too great", func(l *hill.Land) { l.Stations[2].X = 101 }, api.ErrArg},
		{"Y too small", func(l *hill.Land) { l.Stations[2].Y = -1 }, api.ErrArg},
		{"Y smallest", func(l *hill.Land) { l.Stations[2].Y = 0 }, api.OK},
		{"Y greatest", func(l *hill.Land) { l.Stations[2].Y = 100 }, api.OK},
		{"Y too great", func(l *hill.Land) { l.Stations[2].Y = 101 }, api.ErrArg},
		{"Z too small", func(l *hill.Land) { l.Stations[2].Z = -1 }, api.ErrArg},
		{"Z smallest", func(l *hill.Land) { l.Stations[2].Z = 0 }, api.OK},
		{"Z greatest", func(l *hill.Land) { l.Stations[2].Z = 1000 }, api.OK},
		{"Z too great", func(l *hill.Land) { l.Stations[2].Z = 1001 }, api.ErrArg},
		{"no mirror", func(l *hill.Land) { l.Stations[2].Mirrors = 0 }, api.ErrArg},
		{"3 mirrors", func(l *hill.Land) { l.Stations[2].Mirrors = 3 }, api.ErrArg},
		{"the same place", func(l *hill.Land) { l.Stations[2].X, l.Stations[2].Y = 30, 10 }, api.ErrArg},
		{"X and Y exchanged", func(l *hill.Land) { l.Stations[2].X, l.Stations[2].Y = 10, 30 }, api.OK},
		{"a ridge with a Base", func(l *hill.Land) { l.Ridges[0].Base = 1 }, api.ErrArg},
		{"a ridge below 0", func(l *hill.Land) { l.Ridges[0].Top = -1 }, api.ErrArg},
		{"a flat ridge", func(l *hill.Land) { l.Ridges[0].Top = 0 }, api.OK},
		{"a ridge of 1000", func(l *hill.Land) { l.Ridges[0].Top = 1000 }, api.OK},
		{"a ridge of 1001", func(l *hill.Land) { l.Ridges[0].Top = 1001 }, api.ErrArg},
		{"a ridge at one place", func(l *hill.Land) { l.Ridges[0].Y2 = 5 }, api.ErrArg},
		{"a ridge from outside in X", func(l *hill.Land) { l.Ridges[0].X1 = -1 }, api.ErrArg},
		{"a ridge from outside in Y", func(l *hill.Land) { l.Ridges[0].Y1 = 101 }, api.ErrArg},
		{"a ridge to outside in X", func(l *hill.Land) { l.Ridges[0].X2 = 101 }, api.ErrArg},
		{"a ridge to outside in Y", func(l *hill.Land) { l.Ridges[0].Y2 = -1 }, api.ErrArg},
		{"a ridge over the land", func(l *hill.Land) { l.Ridges[0] = hill.Wall{X2: 100, Y2: 100} }, api.OK},
		{"the last ridge", func(l *hill.Land) { l.Ridges = append(l.Ridges, hill.Wall{}) }, api.ErrArg},
		{"a cloud upside down", func(l *hill.Land) { l.Cases[1][0].Wall.Base = 81 }, api.ErrArg},
		{"a thin cloud", func(l *hill.Land) { l.Cases[1][0].Wall.Base = 80 }, api.OK},
		{"a cloud below 0", func(l *hill.Land) { l.Cases[1][0].Wall.Base = -1 }, api.ErrArg},
		{"a cloud too high", func(l *hill.Land) { l.Cases[1][0].Wall.Top = 1001 }, api.ErrArg},
		{"a cloud at one place", func(l *hill.Land) { l.Cases[1][0].Wall.X2 = 5 }, api.ErrArg},
		{"a cloud outside", func(l *hill.Land) { l.Cases[1][0].Wall.X1 = -1 }, api.ErrArg},
		{"a cloud that goes before it comes", func(l *hill.Land) { l.Cases[1][0].From, l.Cases[1][0].To = 2, 1 }, api.ErrArg},
		{"a cloud of one hour", func(l *hill.Land) { l.Cases[1][0].From = 2 }, api.OK},
		{"a cloud before the first hour", func(l *hill.Land) { l.Cases[1][0].From = -1 }, api.ErrArg},
		{"a cloud after the last hour", func(l *hill.Land) { l.Cases[1][0].To = 3 }, api.ErrArg},
		{"a sun too far east", func(l *hill.Land) { l.Sun[2].East = 101 }, api.ErrArg},
		{"a sun too far west", func(l *hill.Land) { l.Sun[2].East = -101 }, api.ErrArg},
		{"a sun too far north", func(l *hill.Land) { l.Sun[2].North = 101 }, api.ErrArg},
		{"a sun too far south", func(l *hill.Land) { l.Sun[2].North = -101 }, api.ErrArg},
		{"a sun too high", func(l *hill.Land) { l.Sun[2].Up = 101 }, api.ErrArg},
		{"a sun too low", func(l *hill.Land) { l.Sun[2].Up = -101 }, api.ErrArg},
		{"suns as far as can be", func(l *hill.Land) { l.Sun[1], l.Sun[2] = hill.Sun{100, 100, 100}, hill.Sun{-100, -100, -100} }, api.OK},
	} {
		l := three(149)
		x.change(&l)
		if e := hill.CheckLand(l); e != x.want {
			t.Errorf("%s: %v", x.what, e)
		}
		for _, e := range errorsOf(all(l, 0, 0, 0, -1)) {
			if x.want != api.OK && e != x.want {
				t.Errorf("%s: a call has the error %v", x.what, e)
			}
		}
	}
	full := three(149)
	for i := range 3 {
		full.Stations = append(full.Stations, hill.Station{X: 50 + i, Mirrors: 1})
	}
	full.Ridges = slices.Repeat(full.Ridges, 6)
	full.Cases = slices.Repeat([][]hill.Cloud{slices.Repeat(full.Cases[1], 4)}, 4)
	full.Sun = slices.Repeat(full.Sun, 4)
	if e := hill.CheckLand(full); e != api.OK {
		t.Errorf("a land of as many of all as can be: %v", e)
	}
}

// R1, R2: the errors of each call, in their order, with no other result.
func TestErrors(t *testing.T) {
	// The errors are those of Why, Walls, Hours, Always, Stick, Reach, Mirrors and Rise.
	const ok, no, twice, none = api.OK, api.ErrRange, api.ErrTwice, api.ErrNone
	for _, x := range []struct {
		from, to, kase, hour int
		want                 []api.Errno
	}{
		{0, 1, 0, 1, []api.Errno{ok, ok, ok, ok, none, ok, ok, ok}},
		{3, 1, 0, 1, []api.Errno{no, no, no, no, no, no, no, no}},
		{-1, 1, 0, 1, []api.Errno{no, no, no, no, no, no, no, no}},
		{0, 3, 0, 1, []api.Errno{no, no, no, no, no, ok, no, no}},
		{0, -1, 0, 1, []api.Errno{no, no, no, no, no, ok, no, no}},
		{0, 1, 2, 1, []api.Errno{no, no, no, ok, none, no, ok, ok}},
		{0, 1, -1, 1, []api.Errno{no, no, no, ok, none, no, ok, ok}},
		{0, 1, 0, 3, []api.Errno{no, no, ok, ok, no, no, no, ok}},
		{0, 1, 0, -1, []api.Errno{no, no, ok, ok, no, no, no, ok}},
		{1, 1, 0, 1, []api.Errno{twice, twice, twice, twice, twice, ok, twice, twice}},
		{3, 3, 0, 1, []api.Errno{no, no, no, no, no, no, no, no}},
		{1, 1, 2, 3, []api.Errno{no, no, no, twice, no, no, no, twice}},
	} {
		results := all(three(149), x.from, x.to, x.kase, x.hour)
		if got := errorsOf(results); !slices.Equal(got, x.want) {
			t.Errorf("%d, %d, %d, %d: %v", x.from, x.to, x.kase, x.hour, got)
		}
		zeroWithErrors(t, results)
	}
	if s := api.ErrFail.Error(); s != "flash 9" {
		t.Errorf("the words of an error: %q", s)
	}
}

// zeroWithErrors checks that the results that come with an error are zero values.
func zeroWithErrors(t *testing.T, results []any) {
	first := 0
	for i, x := range results {
		e, ok := x.(api.Errno)
		if !ok {
			continue
		}
		for _, r := range results[first:i] {
			if v := reflect.ValueOf(r); e != api.OK && !v.IsZero() && (v.Kind() != reflect.Slice || v.Len() > 0) {
				t.Errorf("a result %v with the error %v", r, e)
			}
		}
		first = i + 1
	}
}

// P1: no arguments make a call panic.
func TestAnyArguments(t *testing.T) {
	odd := []int{math.MinInt, -1, 0, 1, 2, 3, math.MaxInt}
	wild := three(149)
	wild.Stations[0] = hill.Station{X: math.MinInt, Y: math.MaxInt, Z: math.MaxInt, Mirrors: math.MinInt}
	wild.Ridges[0].X1, wild.Ridges[0].Top = math.MaxInt, math.MaxInt
	for _, l := range []hill.Land{{}, three(149), wild, {Cases: make([][]hill.Cloud, 4)}} {
		for _, a := range odd {
			for _, b := range odd {
				zeroWithErrors(t, all(l, a, b, 0, 0))
				zeroWithErrors(t, all(l, 0, 1, a, b))
			}
		}
	}
}

// R3: nil, and a list without elements.
func TestEmptyLists(t *testing.T) {
	l := three(149)
	l.Ridges = nil
	empty := clone(l)
	empty.Ridges, empty.Cases[0] = []hill.Wall{}, []hill.Cloud{}
	eachSight(l, func(from, to, kase, hour int) {
		if a, b := all(l, from, to, kase, hour), all(empty, from, to, kase, hour); !reflect.DeepEqual(a, b) {
			t.Errorf("%d, %d, %d, %d: %v, %v", from, to, kase, hour, a, b)
		}
	})
}

// R4: arguments are not written to, and results can be, without a trace.
func TestMemory(t *testing.T) {
	eachLand(50, func(r *rand.Rand, l hill.Land) {
		before := clone(l)
		eachSight(l, func(from, to, kase, hour int) {
			first := all(l, from, to, kase, hour)
			want := all(l, from, to, kase, hour)
			for i, x := range first {
				list, ok := x.([]int)
				if !ok {
					continue
				}
				list = list[:cap(list)]
				for k := range list {
					list[k] = -7
				}
				first[i] = want[i]
				if !reflect.DeepEqual(first, want) || !reflect.DeepEqual(all(l, from, to, kase, hour), want) {
					t.Fatalf("the result %d of %v shares its memory", i, l)
				}
			}
		})
		if !reflect.DeepEqual(l, before) {
			t.Fatalf("%v was %v", l, before)
		}
	})
}
