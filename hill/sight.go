package hill

// place is a place seen from above: X to the east, then Y to the north.
type place [2]int

func (s Station) place() place { return place{s.X, s.Y} }

func (w Wall) ends() (place, place) { return place{w.X1, w.Y1}, place{w.X2, w.Y2} }

func (w Wall) base() int { return w.Base }

func (w Wall) top() int { return w.Top }

// side is above 0 if p is to the left of the straight line from a to b, below 0 if it is to the right, and 0 if it is on it.
func side(a, b, p place) int {
	return (b[0]-a[0])*(p[1]-a[1]) - (b[1]-a[1])*(p[0]-a[0])
}

// line is the straight line of sight from one station to another one.
type line struct{ from, to Station }

// lifted is the line with the station from raised by a number.
func (l line) lifted(rise int) line {
	l.from.Z += rise
	return l
}

// height is a height that need not be whole: a number of parts, of which many make 1.
type height struct{ parts, many int }

// above returns how far the height is above a whole one, in parts.
func (h height) above(whole int) int { return h.parts - whole*h.many }

// over returns the height of the line where it crosses the wall, if it does.
func (l line) over(w Wall) (height, bool) {
	first, second := w.ends()
	from, to := l.from.place(), l.to.place()
	near, far := side(first, second, from), side(first, second, to)
	if near*far >= 0 || side(from, to, first)*side(from, to, second) > 0 {
		return height{}, false
	}
	// The distances of both stations from the wall's line are as near to far, so that they divide the line of sight where it crosses.
	near, far = size(near), size(far)
	return height{parts: l.from.Z*far + l.to.Z*near, many: near + far}, true
}

func size(n int) int {
	if n < 0 {
		return -n
	}
	return n
}

// edge is one of both heights of a wall, and the sign that tells on which side of it the wall is: 1 above it, -1 below it.
type edge struct {
	height func(Wall) int
	sign   int
}

// blockedBy tells whether the wall blocks the line: it crosses it, and the line is not on the wrong side of an edge there.
func (l line) blockedBy(w Wall) bool {
	h, crosses := l.over(w)
	if !crosses {
		return false
	}
	for _, e := range [...]edge{{Wall.base, 1}, {Wall.top, -1}} {
		if e.sign*h.above(e.height(w)) < 0 {
			return false
		}
	}
	return true
}

func (s Sun) isUp() bool { return s.Up > 0 }

// behind tells whether the sun is behind the station from, as it looks at the station to.
func (s Sun) behind(l line) bool {
	return s.East*(l.to.X-l.from.X)+s.North*(l.to.Y-l.from.Y) < 0
}
