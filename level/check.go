package level

import (
	"glister/api"
	"glister/lists"
)

// exceeds tells whether the survey has more lines than the limit.
func (s Survey) exceeds() bool { return len(s.Lines) > api.MaxLevelLines }

// valid tells whether a survey that exceeds no limit, and has a valid land, is as the document describes.
func (s Survey) valid() bool {
	return len(s.Known) == len(s.Land.Stations) && lists.Every(s.Known, Range{0, api.MaxHillHeight}.holds) &&
		Range{0, api.MaxLevelBend}.holds(s.Bends) && lists.Every(s.Lines, s.isLine)
}

// isLine tells whether the line can be one of the survey.
func (s Survey) isLine(l Line) bool {
	return lists.Every([]int{l.From, l.To}, s.stations().has) && l.From != l.To &&
		lists.Every([]int{l.Up, l.Down}, Range{-api.MaxLevelRead, api.MaxLevelRead}.has) &&
		(l.Both || l.Down == 0) && Range{0, api.MaxLevelError}.has(l.Error)
}

// stations returns the indexes of the stations.
func (s Survey) stations() Range { return Range{0, len(s.Land.Stations) - 1} }

// lines returns the indexes of the lines.
func (s Survey) lines() Range { return Range{0, len(s.Lines) - 1} }

// hasTruth tells whether the truth is one of the survey.
func (s Survey) hasTruth(t Truth) bool {
	if len(t.Height) != len(s.Known) || len(t.Bend) != len(s.Lines) {
		return false
	}
	for station, height := range t.Height {
		if !s.Known[station].has(height) {
			return false
		}
	}
	for i, l := range s.Lines {
		if !s.bending(l, t.Height[l.To]-t.Height[l.From]).has(t.Bend[i]) {
			return false
		}
	}
	return true
}

// has tells whether the number is one of the range.
func (r Range) has(n int) bool { return r.Lo <= n && n <= r.Hi }

// isEmpty tells whether there is no number in it.
func (r Range) isEmpty() bool { return r.Lo > r.Hi }

// holds tells whether the other one is a range, with both ends in this one.
func (r Range) holds(other Range) bool {
	return !other.isEmpty() && r.has(other.Lo) && r.has(other.Hi)
}
