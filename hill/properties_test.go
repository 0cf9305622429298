package hill_test

import (
	"math/rand"
	"reflect"
	"slices"
	"testing"

	"glister/api"
	"glister/hill"
)

func why(l hill.Land, from, to, kase, hour int) uint8 {
	reason, _, _ := hill.Why(l, from, to, kase, hour)
	return reason
}

func ridgesOf(l hill.Land, from, to int) []int {
	ridges, _, _ := hill.Walls(l, from, to, 0, 0)
	return ridges
}

// within tells whether all elements of the part are in the list.
func within(part, list []int) bool {
	return !slices.ContainsFunc(part, func(n int) bool { return !slices.Contains(list, n) })
}

// P1.7
func TestBothWays(t *testing.T) {
	eachLand(200, func(r *rand.Rand, l hill.Land) {
		eachSight(l, func(from, to, kase, hour int) {
			a, b, _ := hill.Walls(l, from, to, kase, hour)
			c, d, _ := hill.Walls(l, to, from, kase, hour)
			if !slices.Equal(a, c) || !slices.Equal(b, d) {
				t.Fatalf("%v: %v, %v one way, %v, %v the other way", l, a, b, c, d)
			}
			m, e := hill.Mirrors(l, from, to, hour)
			n, f := hill.Mirrors(l, to, from, hour)
			if up := l.Sun[hour].Up > 0; up != (e == api.OK) || e != f || up && m != 1 && n != 1 {
				t.Fatalf("%v: %d, %v one way, %d, %v the other way", l, m, e, n, f)
			}
		})
	})
}

// P1.8
func TestHigher(t *testing.T) {
	rose := 0
	eachLand(200, func(r *rand.Rand, l hill.Land) {
		eachPair(l, func(from, to int) {
			higher := clone(l)
			higher.Stations[from].Z += 1 + r.Intn(20)
			if !within(ridgesOf(higher, from, to), ridgesOf(l, from, to)) {
				t.Fatalf("%v from %d to %d: a ridge blocks a higher station only", l, from, to)
			}
			rise, e := hill.Rise(l, from, to)
			if e != api.OK {
				return
			}
			higher = clone(l)
			higher.Stations[from].Z += rise
			if len(ridgesOf(higher, from, to)) > 0 {
				t.Fatalf("%v from %d to %d: a ridge blocks with the rise %d", l, from, to, rise)
			}
			for lower := range rise {
				rose++
				higher.Stations[from].Z = l.Stations[from].Z + lower
				if len(ridgesOf(higher, from, to)) == 0 {
					t.Fatalf("%v from %d to %d: no ridge blocks with %d, which is below the rise %d", l, from, to, lower, rise)
				}
			}
		})
	})
	if rose < 100 {
		t.Errorf("only %d numbers below a rise", rose)
	}
}

// P1.9
func TestMoreWalls(t *testing.T) {
	eachLand(200, func(r *rand.Rand, l hill.Land) {
		ridged, clouded, clear := clone(l), clone(l), clone(l)
		if len(l.Ridges) < api.MaxHillRidges {
			ridged.Ridges = append(ridged.Ridges, randomRidge(r))
		}
		if len(l.Cases[0]) < api.MaxHillClouds {
			clouded.Cases[0] = append(clouded.Cases[0], randomCloud(r, len(l.Sun)))
		}
		clear.Cases[0] = nil
		eachPair(l, func(from, to int) {
			free, _ := hill.Hours(clear, from, to, 0)
			for kase := range l.Cases {
				hours, _ := hill.Hours(l, from, to, kase)
				a, e := hill.Hours(ridged, from, to, kase)
				b, f := hill.Hours(clouded, from, to, kase)
				if !within(a, hours) || !within(b, hours) || e != api.OK || f != api.OK {
					t.Fatalf("%v from %d to %d: %v became %v, %v with one more wall", l, from, to, hours, a, b)
				}
				if !within(hours, free) {
					t.Fatalf("%v from %d to %d: %v, without clouds %v", l, from, to, hours, free)
				}
			}
		})
	})
}

// P1.10
func TestAlwaysAndStick(t *testing.T) {
	eachLand(200, func(r *rand.Rand, l hill.Land) {
		eachPair(l, func(from, to int) {
			always, _ := hill.Always(l, from, to)
			for hour := range l.Sun {
				in := those(len(l.Cases), func(kase int) bool {
					hours, _ := hill.Hours(l, from, to, kase)
					return slices.Contains(hours, hour)
				})
				if slices.Contains(always, hour) != (len(in) == len(l.Cases)) {
					t.Fatalf("%v from %d to %d at %d: Always %v, free in %v", l, from, to, hour, always, in)
				}
				kase, e := hill.Stick(l, from, to, hour)
				if (e == api.ErrNone) != slices.Contains(always, hour) {
					t.Fatalf("%v from %d to %d at %d: Always %v, Stick %v", l, from, to, hour, always, e)
				}
				if e == api.OK && (slices.Contains(in, kase) || !within(upTo(kase), in)) {
					t.Fatalf("%v from %d to %d at %d: Stick %d, free in %v", l, from, to, hour, kase, in)
				}
			}
		})
	})
}

// moved moves all places of a land.
func moved(l hill.Land, dx, dy int) hill.Land {
	l = clone(l)
	for i := range l.Stations {
		l.Stations[i].X += dx
		l.Stations[i].Y += dy
	}
	eachWall(l, func(w *hill.Wall) { w.X1, w.X2, w.Y1, w.Y2 = w.X1+dx, w.X2+dx, w.Y1+dy, w.Y2+dy })
	return l
}

// mirrored exchanges X and Y, east and north.
func mirrored(l hill.Land) hill.Land {
	l = clone(l)
	for i, s := range l.Stations {
		l.Stations[i].X, l.Stations[i].Y = s.Y, s.X
	}
	for i, s := range l.Sun {
		l.Sun[i].East, l.Sun[i].North = s.North, s.East
	}
	eachWall(l, func(w *hill.Wall) { w.X1, w.X2, w.Y1, w.Y2 = w.Y1, w.Y2, w.X1, w.X2 })
	return l
}

// eachWall changes each ridge and each cloud.
func eachWall(l hill.Land, change func(w *hill.Wall)) {
	for i := range l.Ridges {
		change(&l.Ridges[i])
	}
	for _, clouds := range l.Cases {
		for i := range clouds {
			change(&clouds[i].Wall)
		}
	}
}

// sameResults checks that all calls have the same results in both lands.
func sameResults(t *testing.T, l, other hill.Land) {
	eachSight(l, func(from, to, kase, hour int) {
		if a, b := all(l, from, to, kase, hour), all(other, from, to, kase, hour); !reflect.DeepEqual(a, b) {
			t.Fatalf("%d, %d, %d, %d: %v in %v, %v in %v", from, to, kase, hour, a, l, b, other)
		}
	})
}

// P1.11
func TestMoved(t *testing.T) {
	eachLand(100, func(r *rand.Rand, l hill.Land) {
		sameResults(t, l, moved(l, r.Intn(101-size), r.Intn(101-size)))
		sameResults(t, l, mirrored(l))
	})
}

// P1.12
func TestOverIt(t *testing.T) {
	over := 0
	eachLand(200, func(r *rand.Rand, l hill.Land) {
		eachSight(l, func(from, to, kase, hour int) {
			low := min(l.Stations[from].Z, l.Stations[to].Z)
			high := max(l.Stations[from].Z, l.Stations[to].Z)
			ridges, clouds, _ := hill.Walls(l, from, to, kase, hour)
			for _, i := range ridges {
				if l.Ridges[i].Top < low {
					t.Fatalf("%v from %d to %d: the ridge %d is below both", l, from, to, i)
				}
			}
			for _, i := range clouds {
				if w := l.Cases[kase][i].Wall; w.Top < low || w.Base > high {
					t.Fatalf("%v from %d to %d: the cloud %d is below or above both", l, from, to, i)
				}
			}
			over += len(l.Ridges) + len(l.Cases[kase])
		})
	})
	if over == 0 {
		t.Error("no walls")
	}
}

// P1.13
func TestReachIsFree(t *testing.T) {
	eachLand(100, func(r *rand.Rand, l hill.Land) {
		eachSight(l, func(from, to, kase, hour int) {
			reached, _ := hill.Reach(l, from, kase, hour)
			if slices.Contains(reached, to) != (why(l, from, to, kase, hour) == hill.Free) || slices.Contains(reached, from) {
				t.Fatalf("%v from %d, %d, %d: %v", l, from, kase, hour, reached)
			}
			one, two := clone(l), clone(l)
			one.Stations[from].Mirrors, two.Stations[from].Mirrors = 1, 2
			few, _ := hill.Reach(one, from, kase, hour)
			many, _ := hill.Reach(two, from, kase, hour)
			if !within(few, many) {
				t.Fatalf("%v from %d, %d, %d: %v with a mirror, %v with two", l, from, kase, hour, few, many)
			}
		})
	})
}

// P1.14: ends exchanged.
func TestEndsExchanged(t *testing.T) {
	eachLand(100, func(r *rand.Rand, l hill.Land) {
		other := clone(l)
		eachWall(other, func(w *hill.Wall) { w.X1, w.Y1, w.X2, w.Y2 = w.X2, w.Y2, w.X1, w.Y1 })
		sameResults(t, l, other)
	})
}

// P1.14: a wall divided into two at a place on it.
func TestWallDivided(t *testing.T) {
	blocked := 0
	eachLand(300, func(r *rand.Rand, l hill.Land) {
		w := hill.Wall{X1: r.Intn(4), Y1: r.Intn(4), Base: r.Intn(6), Top: 6 + r.Intn(6)}
		dx, dy, a, b := 1+r.Intn(2), r.Intn(3)-1, 1+r.Intn(2), 1+r.Intn(2)
		w.Y1 += 4
		w.X2, w.Y2 = w.X1+(a+b)*dx, w.Y1+(a+b)*dy
		first, second := w, w
		first.X2, first.Y2 = w.X1+a*dx, w.Y1+a*dy
		second.X1, second.Y1 = first.X2, first.Y2
		one, two := clone(l), clone(l)
		one.Cases[0] = []hill.Cloud{{Wall: w, To: len(l.Sun) - 1}}
		two.Cases[0] = []hill.Cloud{{Wall: first, To: len(l.Sun) - 1}, {Wall: second, To: len(l.Sun) - 1}}
		eachPair(l, func(from, to int) {
			_, whole, e := hill.Walls(one, from, to, 0, 0)
			_, parts, f := hill.Walls(two, from, to, 0, 0)
			if (len(whole) > 0) != (len(parts) > 0) || e != api.OK || f != api.OK {
				t.Fatalf("%v from %d to %d: %v, divided %v (%v, %v)", w, from, to, whole, parts, e, f)
			}
			blocked += len(parts)
		})
	})
	if blocked < 50 {
		t.Errorf("only %d lines are blocked", blocked)
	}
}

// P1.15
func TestAnotherOrder(t *testing.T) {
	eachLand(100, func(r *rand.Rand, l hill.Land) {
		other := clone(l)
		r.Shuffle(len(other.Ridges), reflect.Swapper(other.Ridges))
		r.Shuffle(len(other.Cases), reflect.Swapper(other.Cases))
		eachPair(l, func(from, to int) {
			a, _ := hill.Always(l, from, to)
			b, _ := hill.Always(other, from, to)
			m, e := hill.Rise(l, from, to)
			n, f := hill.Rise(other, from, to)
			if !slices.Equal(a, b) || m != n || e != f {
				t.Fatalf("%v from %d to %d: %v, %d, %v; in another order %v, %d, %v", l, from, to, a, m, e, b, n, f)
			}
		})
	})
}
