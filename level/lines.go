package level

import (
	"iter"
	"math"

	"glister/lists"
)

// around returns the numbers that differ from this one by at most the error.
func around(n, err int) Range { return Range{n - err, n + err} }

// common returns the numbers that both ranges have.
func (r Range) common(other Range) Range {
	return Range{max(r.Lo, other.Lo), lists.Smallest(r.Hi, other.Hi)}
}

// bending returns the bendings that fit the readings of the line, if this is the difference in height.
func (s Survey) bending(l Line, difference int) Range {
	fits := s.Bends.common(around(l.Up-difference, l.Error))
	if l.Both {
		fits = fits.common(around(l.Down+difference, l.Error))
	}
	return fits
}

// says yields the ranges that the difference in height is in, by the line: by what From reads, by what To reads, and by both readings, whatever the bending is.
func (s Survey) says(l Line) iter.Seq[Range] {
	return func(yield func(Range) bool) {
		if !yield(Range{l.Up - l.Error - s.Bends.Hi, l.Up + l.Error - s.Bends.Lo}) || !l.Both {
			return
		}
		if !yield(Range{s.Bends.Lo - l.Error - l.Down, s.Bends.Hi + l.Error - l.Down}) {
			return
		}
		// The bending is in both readings, so that Up less Down is twice the difference, with both errors.
		twice := around(l.Up-l.Down, 2*l.Error)
		yield(Range{(twice.Lo + 1) >> 1, twice.Hi >> 1})
	}
}

// allowed returns what the line allows: the numbers that are in all that it says, as for each of them the bendings that fit overlap.
func (s Survey) allowed(l Line) Range {
	all := Range{math.MinInt, math.MaxInt}
	for said := range s.says(l) {
		all = all.common(said)
	}
	return all
}
