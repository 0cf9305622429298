package hill

import (
	"slices"

	"glister/api"
	"glister/lists"
)

// span has the numbers from lo to hi, both included.
type span struct{ lo, hi int }

func (s span) has(n int) bool { return s.lo <= n && n <= s.hi }

// frame has the numbers that the parts of a land may have.
type frame struct{ place, height, mirrors, sun, hour span }

func (l Land) frame() frame {
	return frame{
		place:   span{0, api.MaxHillPlace},
		height:  span{0, api.MaxHillHeight},
		mirrors: span{1, 2},
		sun:     span{-api.MaxHillSun, api.MaxHillSun},
		hour:    span{0, len(l.Sun) - 1},
	}
}

func (f frame) isStation(s Station) bool {
	return f.place.has(s.X) && f.place.has(s.Y) && f.height.has(s.Z) && f.mirrors.has(s.Mirrors)
}

func (f frame) isWall(w Wall) bool {
	first, second := w.ends()
	return lists.Every(slices.Concat(first[:], second[:]), f.place.has) && first != second &&
		f.height.has(w.Base) && f.height.has(w.Top) && w.Base <= w.Top
}

func (f frame) isRidge(w Wall) bool { return f.isWall(w) && w.Base == 0 }

func (f frame) isCloud(c Cloud) bool {
	return f.isWall(c.Wall) && f.hour.has(c.From) && f.hour.has(c.To) && c.From <= c.To
}

func (f frame) isCase(clouds []Cloud) bool { return lists.Every(clouds, f.isCloud) }

func (f frame) isSun(s Sun) bool { return lists.Every([]int{s.East, s.North, s.Up}, f.sun.has) }

// exceeds tells whether some list of the land is longer than its limit.
func (l Land) exceeds() bool {
	long := func(clouds []Cloud) bool { return len(clouds) > api.MaxHillClouds }
	return len(l.Stations) > api.MaxHillStations || len(l.Ridges) > api.MaxHillRidges ||
		len(l.Cases) > api.MaxHillCases || len(l.Sun) > api.MaxHillHours || slices.ContainsFunc(l.Cases, long)
}

// valid tells whether a land that exceeds no limit is as the document describes.
func (l Land) valid() bool {
	f := l.frame()
	return len(l.Stations) > 0 && len(l.Cases) > 0 && len(l.Sun) > 0 &&
		lists.Every(l.Stations, f.isStation) && l.apart() &&
		lists.Every(l.Ridges, f.isRidge) && lists.Every(l.Cases, f.isCase) && lists.Every(l.Sun, f.isSun)
}

// apart tells whether no two stations have the same place.
func (l Land) apart() bool {
	taken := map[place]bool{}
	for _, s := range l.Stations {
		if taken[s.place()] {
			return false
		}
		taken[s.place()] = true
	}
	return true
}
