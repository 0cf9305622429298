package angle

import (
	"sort"

	"glister/api"
	"glister/lists"
)

// rooms has the room of each angle.
type rooms [api.MaxAngleAngles]Range

// whole returns the room that has all numbers of truths.
func whole() Range { return Range{0, api.MaxAngleRead} }

// sheet is a net at work. It keeps the numbers that its angles may have.
type sheet struct {
	Net
	rooms rooms
}

// room returns the room of the angle with the error.
func (a Angle) room(err int) Range {
	far := err * a.Weight
	return Range{max(0, a.Read-far), lists.Smallest(api.MaxAngleRead, a.Read+far)}
}

// within returns the net at work with the error.
func (n Net) within(err int) sheet {
	s := sheet{Net: n}
	for angle, a := range n.Angles {
		s.rooms[angle] = a.room(err)
	}
	return s
}

// open returns the net at work, or the error of a call with an error.
func open(n Net, err int) (sheet, api.Errno) {
	e := CheckNet(n)
	switch {
	case e != api.OK:
		return sheet{}, e
	case !Range{0, api.MaxAngleError}.has(err):
		return sheet{}, api.ErrRange
	}
	return n.within(err), api.OK
}

// openClosing returns the net at work, or the error of a call that needs a truth within the error.
func openClosing(n Net, err int) (sheet, api.Errno) {
	s, e := open(n, err)
	switch {
	case e != api.OK:
		return sheet{}, e
	case !s.closes():
		return sheet{}, api.ErrFail
	}
	return s, api.OK
}

// hasTruth tells whether the net has a truth: with the greatest error each room is whole.
func (n Net) hasTruth() bool { return n.within(api.MaxAngleError).closes() }

// least returns the smallest error of a net that has a truth.
func (n Net) least() int {
	return sort.Search(api.MaxAngleError, func(err int) bool { return n.within(err).closes() })
}

// with returns the sheet with another room for the angle.
func (s sheet) with(angle int, room Range) sheet {
	s.rooms[angle] = room
	return s
}

// without returns the sheet with whole rooms for the angles whose readings are left out.
func (s sheet) without(left []int) sheet {
	for _, angle := range left {
		s = s.with(angle, whole())
	}
	return s
}

// hasNumbers tells whether there is one number for each angle, and each is in its room.
func (s sheet) hasNumbers(numbers []int) bool {
	if len(numbers) != len(s.Angles) {
		return false
	}
	for angle, n := range numbers {
		if !s.rooms[angle].has(n) {
			return false
		}
	}
	return true
}

// lowest returns the smallest number that the angle has in a truth of a sheet that closes.
func (s sheet) lowest(angle int) int {
	room := s.rooms[angle]
	return room.Lo + sort.Search(room.Hi-room.Lo, func(more int) bool {
		return s.with(angle, Range{room.Lo, room.Lo + more}).closes()
	})
}

// highest returns the greatest number that the angle has in a truth of a sheet that closes.
func (s sheet) highest(angle int) int {
	room := s.rooms[angle]
	return room.Hi - sort.Search(room.Hi-room.Lo, func(less int) bool {
		return s.with(angle, Range{room.Hi - less, room.Hi}).closes()
	})
}

// bounds returns the bounds of all angles of a sheet that closes.
func (s sheet) bounds() []Range {
	var list []Range
	for angle := range len(s.Angles) {
		list = append(list, Range{s.lowest(angle), s.highest(angle)})
	}
	return list
}

// truth returns the truth of a sheet that closes that is lexicographically before all others: so it does not depend on how triangles and circles are numbered.
func (s sheet) truth() []int {
	var numbers []int
	for angle := range len(s.Angles) {
		n := s.lowest(angle)
		s = s.with(angle, Range{n, n})
		numbers = append(numbers, n)
	}
	return numbers
}

// isFree tells whether the others allow each number of the angle: they do if they allow the first one and the last one, as no number between two others is left out.
func (s sheet) isFree(angle int) bool {
	ends := []int{whole().Lo, whole().Hi}
	return lists.Every(ends, func(n int) bool { return s.with(angle, Range{n, n}).closes() })
}

// controlled returns all angles that are controlled, rising.
func (s sheet) controlled() []int {
	var list []int
	for angle := range len(s.Angles) {
		if !s.isFree(angle) {
			list = append(list, angle)
		}
	}
	return list
}
