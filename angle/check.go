package angle

import (
	"glister/api"
	"glister/lists"
)

// exceeds tells whether the net has more of something than its limit.
func (n Net) exceeds() bool {
	return len(n.Angles) > api.MaxAngleAngles || n.Triangles > api.MaxAngleSums || n.Circles > api.MaxAngleSums
}

// valid tells whether a net that exceeds no limit is as the document describes.
func (n Net) valid() bool {
	return len(n.Angles) > 0 && n.Triangles >= 0 && n.Circles >= 0 && lists.Every(n.Angles, n.isAngle)
}

// isAngle tells whether the angle can be one of the net.
func (n Net) isAngle(a Angle) bool {
	triangles, circles := Range{None, n.Triangles - 1}, Range{None, n.Circles - 1}
	return triangles.has(a.Triangle) && circles.has(a.Circle) &&
		Range{0, api.MaxAngleRead}.has(a.Read) && Range{1, api.MaxAngleWeight}.has(a.Weight)
}

// hasCut tells whether the cut is one of the net.
func (n Net) hasCut(c Cut) bool {
	return lists.RisesBelow(c.Triangles, n.Triangles) && lists.RisesBelow(c.Circles, n.Circles)
}

// has tells whether the number is one of the range.
func (r Range) has(n int) bool { return r.Lo <= n && n <= r.Hi }
