package angle

import (
	"iter"

	"glister/api"
)

const (
	halfTurn = api.MaxAngleHalf
	fullTurn = 2 * halfTurn
)

// outside returns the number of what is outside of all sums, which are numbered: triangles first, then circles. There each angle begins that has no triangle, and each one ends that has no circle.
func (n Net) outside() int { return n.Triangles + n.Circles }

// turn returns what the angles of the triangle, or the circle, are together.
func (n Net) turn(sum int) int {
	if sum < n.Triangles {
		return halfTurn
	}
	return fullTurn
}

// arc is a way by an angle from one sum to another one: from its triangle to its circle the angle becomes greater, back it becomes smaller.
type arc struct{ from, to, angle int }

func (a arc) back() arc { return arc{a.to, a.from, a.angle} }

// arc returns the way by the angle from its triangle to its circle.
func (n Net) arc(angle int) arc {
	a := arc{n.outside(), n.outside(), angle}
	belongs := n.Angles[angle]
	if belongs.Triangle != None {
		a.from = belongs.Triangle
	}
	if belongs.Circle != None {
		a.to = n.Triangles + belongs.Circle
	}
	return a
}

// arcs yields the ways from the sum, one by each angle that belongs to it.
func (n Net) arcs(sum int) iter.Seq[arc] {
	return func(yield func(arc) bool) {
		for angle := range len(n.Angles) {
			a := n.arc(angle)
			if a.to == sum {
				a = a.back()
			}
			if a.from == sum && !yield(a) {
				return
			}
		}
	}
}

// isClosed tells whether the numbers, one for each angle, are together what the sums should be.
func (n Net) isClosed(numbers []int) bool {
	for sum := range n.outside() {
		total := 0
		for a := range n.arcs(sum) {
			total += numbers[a.angle]
		}
		if total != n.turn(sum) {
			return false
		}
	}
	return true
}
