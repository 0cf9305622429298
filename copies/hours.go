package copies

import (
	"iter"
	"slices"

	"glister/api"
)

// never stands for the hour of what is lost: it is later than all others.
const never = api.MaxCopiesEnd + 1

// hourSet tells of each hour, and of never, whether it is in the set.
type hourSet [never + 1]bool

// all yields the hours of the set, rising.
func (s hourSet) all() iter.Seq[int] {
	return func(yield func(int) bool) {
		for hour := range len(s) {
			if s[hour] && !yield(hour) {
				return
			}
		}
	}
}

// first returns the first hour of a set that has one.
func (s hourSet) first() int {
	for hour := range s.all() {
		return hour
	}
	return never
}

// last returns the last hour of a set that has one.
func (s hourSet) last() int {
	found := never
	for hour := range s.all() {
		found = hour
	}
	return found
}

// all yields the numbers of the range, rising.
func (r Range) all() iter.Seq[int] {
	return func(yield func(int) bool) {
		for more := range r.Hi - r.Lo + 1 {
			if !yield(r.Lo + more) {
				return
			}
		}
	}
}

func (l Leg) isAsleep(hour int) bool {
	return slices.ContainsFunc(l.Asleep, func(r Range) bool { return r.has(hour) })
}

// end returns the hour at which a copy can go on that begins the leg at the hour and takes so many hours.
func (l Leg) end(begin, takes int) int {
	hour := begin + takes
	for l.isAsleep(hour) {
		hour++
	}
	return hour
}

// ends returns all hours at which copies can go on that begin the leg at one of the hours.
func (l Leg) ends(begin hourSet) hourSet {
	var set hourSet
	for hour := range begin.all() {
		for takes := range l.Takes.all() {
			set[l.end(hour, takes)] = true
		}
	}
	return set
}

// hours returns all hours at which a copy that is sent at the hour can be at the receiver, and never if it can be lost.
func (r Route) hours(send int) hourSet {
	var set hourSet
	set[send] = true
	for _, l := range r.Legs {
		set = l.ends(set)
	}
	set[never] = r.Lossy
	return set
}

// hour returns the hour at which a copy that is sent at the hour is at the receiver; without numbers of hours it is lost.
func (r Route) hour(send int, takes []int) int {
	if len(takes) == 0 {
		return never
	}
	hour := send
	for i, l := range r.Legs {
		hour = l.end(hour, takes[i])
	}
	return hour
}

// takes returns numbers of hours with which a copy that is sent at the hour is at the receiver at one of its hours, or lost.
func (r Route) takes(send, hour int) []int {
	if hour == never {
		return nil
	}
	var search func(leg, begin int) ([]int, bool)
	search = func(leg, begin int) ([]int, bool) {
		if leg == len(r.Legs) {
			return nil, begin == hour
		}
		l := r.Legs[leg]
		for n := range l.Takes.all() {
			if rest, ok := search(leg+1, l.end(begin, n)); ok {
				return slices.Concat([]int{n}, rest), true
			}
		}
		return nil, false
	}
	list, _ := search(0, send)
	return list
}
