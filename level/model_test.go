package level_test

import (
	"math/rand"
	"slices"

	"glister/api"
	"glister/hill"
	"glister/level"
)

// A second reading of the chapter: all heights and all bendings are tried; where there are too many, the ranges of heights are narrowed line by line until no line narrows them, for each height and each bending that is asked for.

// far tells whether both numbers differ by more than the error.
func far(a, b, err int) bool { return a-b > err || b-a > err }

// fits tells whether the readings of the line fit a difference in height, and a bending.
func fits(l level.Line, difference, bend int) bool {
	return !far(l.Up, difference+bend, l.Error) && (!l.Both || !far(l.Down, bend-difference, l.Error))
}

// bends lists the bendings that fit the line.
func bends(s level.Survey, l level.Line, difference int) []int {
	var list []int
	for bend := s.Bends.Lo; bend <= s.Bends.Hi; bend++ {
		if fits(l, difference, bend) {
			list = append(list, bend)
		}
	}
	return list
}

// modelAllows tries all differences; it returns a range of no numbers if there are none, and how many there are.
func modelAllows(s level.Survey, l level.Line) (r level.Range, many int) {
	const most = api.MaxLevelRead + api.MaxLevelError + api.MaxLevelBend
	r = span(1, 0)
	for difference := -most; difference <= most; difference++ {
		if len(bends(s, l, difference)) > 0 {
			if many == 0 {
				r.Lo = difference
			}
			r.Hi = difference
			many++
		}
	}
	return r, many
}

// allAllow has what each line allows.
func allAllow(s level.Survey) []level.Range {
	var list []level.Range
	for _, l := range s.Lines {
		r, _ := modelAllows(s, l)
		list = append(list, r)
	}
	return list
}

// eachHeights calls the test with each list of heights that belongs to a truth.
func eachHeights(s level.Survey, test func(heights []int)) {
	var try func(list []int)
	try = func(list []int) {
		if len(list) == len(s.Known) {
			for _, l := range s.Lines {
				if len(bends(s, l, list[l.To]-list[l.From])) == 0 {
					return
				}
			}
			test(slices.Clone(list))
			return
		}
		for n := s.Known[len(list)].Lo; n <= s.Known[len(list)].Hi; n++ {
			try(append(list, n))
		}
	}
	try(nil)
}

// tally has the bounds of numbers that were seen.
type tally struct {
	level.Range
	some bool
}

func (x *tally) see(n int) {
	if !x.some {
		x.Range = span(n, n)
	}
	x.Range, x.some = span(min(x.Lo, n), max(x.Hi, n)), true
}

// solution has the bounds of all truths: of heights, of differences from and to each station, and of bendings; and how many lists of heights there are.
type solution struct {
	heights, bends []tally
	between        [api.MaxHillStations][api.MaxHillStations]tally
	many           int
}

// solver returns the bounds of all truths.
type solver func(s level.Survey) solution

func opened(s level.Survey) solution {
	return solution{heights: make([]tally, len(s.Known)), bends: make([]tally, len(s.Lines))}
}

// byTruths tries all truths.
func byTruths(s level.Survey) solution {
	x := opened(s)
	eachHeights(s, func(heights []int) {
		x.many++
		for from, low := range heights {
			x.heights[from].see(low)
			for to, high := range heights {
				x.between[from][to].see(high - low)
			}
		}
		for i, l := range s.Lines {
			for _, bend := range bends(s, l, heights[l.To]-heights[l.From]) {
				x.bends[i].see(bend)
			}
		}
	})
	return x
}

// narrowed returns the ranges of heights that no line narrows any more, or nothing if some have no number left.
func narrowed(s level.Survey, allows []level.Range) []level.Range {
	list := slices.Clone(s.Known)
	for {
		before := slices.Clone(list)
		for i, l := range s.Lines {
			from, to := &list[l.From], &list[l.To]
			to.Lo, to.Hi = max(to.Lo, from.Lo+allows[i].Lo), min(to.Hi, from.Hi+allows[i].Hi)
			from.Lo, from.Hi = max(from.Lo, to.Lo-allows[i].Hi), min(from.Hi, to.Hi-allows[i].Lo)
			if to.Lo > to.Hi || from.Lo > from.Hi {
				return nil
			}
		}
		if slices.Equal(list, before) {
			return list
		}
	}
}

// byNarrowing tries each height of each station, and each bending of each line.
func byNarrowing(s level.Survey) solution {
	x, allows := opened(s), allAllow(s)
	if narrowed(s, allows) == nil {
		return x
	}
	x.many = 1
	for station, known := range s.Known {
		for height := known.Lo; height <= known.Hi; height++ {
			fixed := cloneSurvey(s)
			fixed.Known[station] = span(height, height)
			for to, r := range narrowed(fixed, allows) {
				x.heights[to].see(r.Lo)
				x.heights[to].see(r.Hi)
				x.between[station][to].see(r.Lo - height)
				x.between[station][to].see(r.Hi - height)
			}
		}
	}
	for i, l := range s.Lines {
		for bend := s.Bends.Lo; bend <= s.Bends.Hi; bend++ {
			fixed, with := s, slices.Clone(allows)
			fixed.Bends = span(bend, bend)
			with[i], _ = modelAllows(fixed, l)
			if narrowed(s, with) != nil {
				x.bends[i].see(bend)
			}
		}
	}
	return x
}

// rangesOf has the bounds of tallies.
func rangesOf(list []tally) []level.Range {
	var all []level.Range
	for _, x := range list {
		all = append(all, x.Range)
	}
	return all
}

// raised returns the land with these heights.
func raised(l hill.Land, heights []int) hill.Land {
	l.Stations = slices.Clone(l.Stations)
	for i, height := range heights {
		l.Stations[i].Z = height
	}
	return l
}

// sees tells whether the line of sight is free with these heights: no rise is needed.
func sees(l hill.Land, heights []int, from, to int) bool {
	rise, e := hill.Rise(raised(l, heights), from, to)
	return e == api.OK && rise == 0
}

// modelFree tries all truths.
func modelFree(s level.Survey, from, to int) (sure, may bool) {
	sure = true
	eachHeights(s, func(heights []int) {
		free := sees(s.Land, heights, from, to)
		sure, may = sure && free, may || free
	})
	return sure, may
}

// eachSet calls the test with each set of indexes below many.
func eachSet(many int, test func(list []int)) {
	for set := range 1 << many {
		var list []int
		for i := range many {
			if set>>i&1 == 1 {
				list = append(list, i)
			}
		}
		test(list)
	}
}

// isBefore tells whether the list is shorter than the other one, or as long and smaller at the first index at which they differ.
func isBefore(list, other []int) bool {
	return len(list) < len(other) || len(list) == len(other) && slices.Compare(list, other) < 0
}

// without returns the survey without the lines that are left out.
func without(s level.Survey, left []int) level.Survey {
	var list []level.Line
	for i, l := range s.Lines {
		if !slices.Contains(left, i) {
			list = append(list, l)
		}
	}
	s.Lines = list
	return s
}

// modelLeave tries all sets of lines.
func modelLeave(s level.Survey) []int {
	best, allows := upTo(len(s.Lines)), allAllow(s)
	eachSet(len(s.Lines), func(list []int) {
		if !isBefore(list, best) {
			return
		}
		var kept []level.Range
		for i, r := range allows {
			if !slices.Contains(list, i) {
				kept = append(kept, r)
			}
		}
		if narrowed(without(s, list), kept) != nil {
			best = list
		}
	})
	return best
}

// upTo lists the numbers below n.
func upTo(n int) []int {
	var list []int
	for i := range n {
		list = append(list, i)
	}
	return list
}

// scale tells how large random surveys are: how many stations they have at most, and how many numbers more than one a height, a bending and an error can be.
type scale struct{ stations, heights, bends, errors int }

var (
	small = scale{4, 5, 4, 3}
	large = scale{api.MaxHillStations, api.MaxHillHeight, api.MaxLevelBend, api.MaxLevelError}
)

// few returns a number up to the most, more often a small one.
func few(r *rand.Rand, most int) int { return r.Intn(r.Intn(most+1) + 1) }

// randomLand has as many stations as there are heights, at other ones than these, and ridges between them.
func randomLand(r *rand.Rand, heights []int) hill.Land {
	l := hill.Land{Cases: [][]hill.Cloud{nil}, Sun: []hill.Sun{{Up: r.Intn(3) - 1}}}
	taken := map[[2]int]bool{}
	for len(l.Stations) < len(heights) {
		at := [2]int{40 + r.Intn(12), 40 + r.Intn(12)}
		if !taken[at] {
			l.Stations = append(l.Stations, hill.Station{X: at[0], Y: at[1], Z: r.Intn(api.MaxHillHeight + 1), Mirrors: 1 + r.Intn(2)})
		}
		taken[at] = true
	}
	for range r.Intn(api.MaxHillRidges + 1) {
		w := hill.Wall{X1: 38 + r.Intn(16), Y1: 38 + r.Intn(16), X2: 38 + r.Intn(16), Y2: 38 + r.Intn(16)}
		low, high := heights[r.Intn(len(heights))], heights[r.Intn(len(heights))]
		w.Top = max(0, min(api.MaxHillHeight, (low+high)/2+few(r, 6)-few(r, 6)))
		if w.X1 != w.X2 || w.Y1 != w.Y2 {
			l.Ridges = append(l.Ridges, w)
		}
	}
	return l
}

// around is a range of numbers up to the most, with this one.
func around(r *rand.Rand, n, width, most int) level.Range {
	return span(max(0, n-few(r, width)), min(most, n+few(r, width)))
}

// aLine has readings that agree with the heights, and with some bending.
func aLine(r *rand.Rand, s level.Survey, heights []int, errors int) level.Line {
	ends := r.Perm(len(heights))
	l := level.Line{From: ends[0], To: ends[1], Error: few(r, few(r, errors)), Both: r.Intn(2) == 0}
	difference, bend := heights[l.To]-heights[l.From], s.Bends.Lo+r.Intn(s.Bends.Hi-s.Bends.Lo+1)
	l.Up = difference + bend + r.Intn(2*l.Error+1) - l.Error
	if l.Both {
		l.Down = bend - difference + r.Intn(2*l.Error+1) - l.Error
	}
	return l
}

// randomSurvey has lines that agree with one truth; if it is spoilt, some agree with another one, or with none.
func randomSurvey(r *rand.Rand, x scale, spoilt bool) level.Survey {
	stations, base := 1+max(r.Intn(x.stations), r.Intn(x.stations)), r.Intn(900)
	var s level.Survey
	bend := r.Intn(api.MaxLevelBend + 1)
	s.Bends = around(r, bend, x.bends/2, api.MaxLevelBend)
	var heights, other []int
	for range stations {
		height := base + few(r, few(r, 100))
		known := around(r, height, x.heights/2, api.MaxHillHeight)
		s.Known, heights = append(s.Known, known), append(heights, height)
		other = append(other, known.Lo+r.Intn(known.Hi-known.Lo+1))
	}
	s.Land = randomLand(r, heights)
	for range r.Intn(api.MaxLevelLines + 1) {
		if stations == 1 {
			break
		}
		l := aLine(r, s, heights, x.errors)
		switch {
		case spoilt && r.Intn(5) == 0:
			l = aLine(r, s, other, x.errors)
		case spoilt && r.Intn(5) == 0:
			l.Up += few(r, 20) - few(r, 20)
		}
		s.Lines = append(s.Lines, l)
	}
	return s
}

// eachOf calls the test with random surveys of the scale, every other one spoilt, always the same ones.
func eachOf(x scale, many int, test func(r *rand.Rand, s level.Survey)) {
	r := rand.New(rand.NewSource(24))
	for i := range many {
		test(r, randomSurvey(r, x, i%2 == 0))
	}
}

// eachSurvey calls the test with random surveys of any size, every other one spoilt, always the same ones.
func eachSurvey(many int, test func(r *rand.Rand, s level.Survey)) {
	r := rand.New(rand.NewSource(25))
	for i := range many {
		test(r, randomSurvey(r, []scale{small, large}[r.Intn(2)], i%2 == 0))
	}
}

func cloneLand(l hill.Land) hill.Land {
	l.Stations, l.Ridges, l.Sun, l.Cases = slices.Clone(l.Stations), slices.Clone(l.Ridges), slices.Clone(l.Sun), slices.Clone(l.Cases)
	for i, clouds := range l.Cases {
		l.Cases[i] = slices.Clone(clouds)
	}
	return l
}

func cloneSurvey(s level.Survey) level.Survey {
	s.Land, s.Known, s.Lines = cloneLand(s.Land), slices.Clone(s.Known), slices.Clone(s.Lines)
	return s
}
