package angle

import (
	"glister/api"
	"glister/lists"
)

// places is how many sums a net can have, and what is outside of them.
const places = 2*api.MaxAngleSums + 1

// marks has a mark for each sum of a net, and for what is outside of them.
type marks [places]bool

// flow is a sheet whose angles are moved in their rooms until all sums are right. Triangles give what their angles have, and circles take it.
type flow struct {
	sheet
	left map[arc]int // by how much the angle can still be moved along the arc
	over [places]int // what each sum still has to give; if it is below 0, to take
}

// flow returns the flow in which all angles have the smallest numbers of their rooms.
func (s sheet) flow() *flow {
	f := &flow{sheet: s, left: map[arc]int{}}
	for sum := range s.outside() {
		f.over[sum] = s.gives(sum)
		f.over[s.outside()] -= f.over[sum]
	}
	for angle := range len(s.Angles) {
		a, room := s.arc(angle), s.rooms[angle]
		f.over[a.from] -= room.Lo
		f.over[a.to] += room.Lo
		f.left[a] = room.Hi - room.Lo
	}
	return f
}

// gives returns what the sum has to give; circles take theirs.
func (n Net) gives(sum int) int {
	if sum < n.Triangles {
		return n.turn(sum)
	}
	return -n.turn(sum)
}

// push moves angles on one way from the sum, which has to give something, to one that has to take something. It returns how much they moved, and which sums were reached.
func (f *flow) push(start int) (moved int, reached marks) {
	var search func(sum, most int) int
	search = func(sum, most int) int {
		reached[sum] = true
		if f.over[sum] < 0 {
			some := lists.Smallest(most, -f.over[sum])
			f.over[sum] += some
			return some
		}
		for a := range f.arcs(sum) {
			if reached[a.to] || f.left[a] == 0 {
				continue
			}
			if some := search(a.to, lists.Smallest(most, f.left[a])); some > 0 {
				f.left[a] -= some
				f.left[a.back()] += some
				return some
			}
		}
		return 0
	}
	moved = search(start, f.over[start])
	f.over[start] -= moved
	return moved, reached
}

// stuck moves all that can be moved, and returns the sums that are reached by what cannot: none if all sums are right.
func (s sheet) stuck() marks {
	f := s.flow()
	var stuck marks
	for start := range f.over {
		for f.over[start] > 0 {
			moved, reached := f.push(start)
			if moved == 0 {
				for sum, is := range reached {
					stuck[sum] = stuck[sum] || is
				}
				break
			}
		}
	}
	return stuck
}

// closes tells whether there is a truth in which each angle is in its room.
func (s sheet) closes() bool { return s.stuck() == marks{} }
