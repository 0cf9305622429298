// Package hill returns which stations can flash to which other ones, at which hours and in which cases of the clouds, and what blocks them: layer 1, see shared/doc/01-hill.md.
package hill

import (
	"slices"

	"glister/api"
)

// Station is a station on a hill: its place, its height and its number of mirrors.
type Station struct{ X, Y, Z, Mirrors int }

// Wall stands upright over the straight line between two places, from the height Base to the height Top.
type Wall struct{ X1, Y1, X2, Y2, Base, Top int }

// Cloud is a wall that is there from the hour From to the hour To, both included.
type Cloud struct {
	Wall     Wall
	From, To int
}

// Sun is where the sun is seen from everywhere, at one hour.
type Sun struct{ East, North, Up int }

// Land has the stations, the ridges, the cases of the clouds, and the sun of each hour.
type Land struct {
	Stations []Station
	Ridges   []Wall
	Cases    [][]Cloud
	Sun      []Sun
}

// The reasons why a station cannot flash to another one.
const (
	Free        uint8 = 0
	Night       uint8 = 1
	Behind      uint8 = 2
	RidgeBlocks uint8 = 3
	CloudBlocks uint8 = 4
)

// CheckLand returns the error of the land, or OK.
func CheckLand(l Land) api.Errno {
	switch {
	case l.exceeds():
		return api.ErrLimit
	case !l.valid():
		return api.ErrArg
	}
	return api.OK
}

// Why returns the first reason why the station from cannot flash to the station to, and the index of the first ridge or cloud that blocks, if that is the reason.
func Why(l Land, from, to, kase, hour int) (reason uint8, wall int, e api.Errno) {
	s, e := open(l, kase, hour, from, to)
	if e != api.OK {
		return 0, 0, e
	}
	reason, wall = s.why(from, to, kase, hour)
	return reason, wall, api.OK
}

// Walls returns the indexes of all ridges, and of all clouds of the case at the hour, that block the line, whatever the sun does.
func Walls(l Land, from, to, kase, hour int) (ridges, clouds []int, e api.Errno) {
	s, e := open(l, kase, hour, from, to)
	if e != api.OK {
		return nil, nil, e
	}
	return s.ridges(from, to), s.clouds(from, to, kase, hour), api.OK
}

// Hours returns all hours at which the station from can flash to the station to in the case.
func Hours(l Land, from, to, kase int) ([]int, api.Errno) {
	s, e := open(l, kase, anyHour, from, to)
	if e != api.OK {
		return nil, e
	}
	return s.hours(func(hour int) bool { return s.free(from, to, kase, hour) }), api.OK
}

// Always returns all hours at which the station from can flash to the station to in each case.
func Always(l Land, from, to int) ([]int, api.Errno) {
	s, e := open(l, anyCase, anyHour, from, to)
	if e != api.OK {
		return nil, e
	}
	return s.hours(func(hour int) bool { return len(s.stuck(from, to, hour)) == 0 }), api.OK
}

// Stick returns the first case in which the station from cannot flash to the station to at the hour.
func Stick(l Land, from, to, hour int) (int, api.Errno) {
	s, e := open(l, anyCase, hour, from, to)
	if e != api.OK {
		return 0, e
	}
	cases := s.stuck(from, to, hour)
	if len(cases) == 0 {
		return 0, api.ErrNone
	}
	return smallest(cases...), api.OK
}

// Reach returns all stations to which the station from can flash in the case at the hour.
func Reach(l Land, from, kase, hour int) ([]int, api.Errno) {
	s, e := open(l, kase, hour, from)
	if e != api.OK {
		return nil, e
	}
	var reached []int
	for to := range len(s.Stations) {
		if to != from && s.free(from, to, kase, hour) {
			reached = append(reached, to)
		}
	}
	return reached, api.OK
}

// Mirrors returns how many mirrors the station from needs to flash to the station to at the hour.
func Mirrors(l Land, from, to, hour int) (int, api.Errno) {
	s, e := open(l, anyCase, hour, from, to)
	switch {
	case e != api.OK:
		return 0, e
	case !s.Sun[hour].isUp():
		return 0, api.ErrNone
	case s.Sun[hour].behind(s.line(from, to)):
		return 2, api.OK
	}
	return 1, api.OK
}

// Rise returns the smallest number that lifts the station from over all ridges between it and the station to.
func Rise(l Land, from, to int) (int, api.Errno) {
	s, e := open(l, anyCase, anyHour, from, to)
	if e != api.OK {
		return 0, e
	}
	line := s.line(from, to)
	for rise := range api.MaxHillHeight - line.from.Z + 1 {
		if !slices.ContainsFunc(s.Ridges, line.lifted(rise).blockedBy) {
			return rise, api.OK
		}
	}
	return 0, api.ErrFail
}
