package angle

import "slices"

// cut returns a cut that proves that the sheet does not close. The angles between sums that are stuck and the others are at those ends of their rooms that bring both sides closest; the cut has the side that is not outside.
func (s sheet) cut() Cut {
	var c Cut
	stuck := s.stuck()
	for sum := range s.outside() {
		switch {
		case stuck[sum] == stuck[s.outside()]:
		case sum < s.Triangles:
			c.Triangles = append(c.Triangles, sum)
		default:
			c.Circles = append(c.Circles, sum-s.Triangles)
		}
	}
	return c
}

func (c Cut) hasTriangle(a Angle) bool { return slices.Contains(c.Triangles, a.Triangle) }

func (c Cut) hasCircle(a Angle) bool { return slices.Contains(c.Circles, a.Circle) }

func (c Cut) isOuter(a Angle) bool { return c.hasTriangle(a) && !c.hasCircle(a) }

func (c Cut) isInner(a Angle) bool { return c.hasCircle(a) && !c.hasTriangle(a) }

// difference returns what its triangles are together, less what its circles are.
func (c Cut) difference() int { return halfTurn*len(c.Triangles) - fullTurn*len(c.Circles) }

func (r Range) low() int { return r.Lo }

func (r Range) high() int { return r.Hi }

// end is one of both ends of rooms.
type end struct{ of func(Range) int }

// together returns what the ends of the rooms of all angles are together that pass the test.
func (s sheet) together(test func(Angle) bool, e end) int {
	total := 0
	for angle, a := range s.Angles {
		if test(a) {
			total += e.of(s.rooms[angle])
		}
	}
	return total
}

// isProof tells whether the cut of the net proves that the sheet does not close.
func (s sheet) isProof(c Cut) bool {
	low, high := end{Range.low}, end{Range.high}
	least := s.together(c.isOuter, low) - s.together(c.isInner, high)
	most := s.together(c.isOuter, high) - s.together(c.isInner, low)
	return c.difference() < least || c.difference() > most
}
