package level_test

import (
	"math"
	"math/rand"
	"reflect"
	"slices"
	"testing"

	"glister/api"
	"glister/hill"
	"glister/level"
)

func numbers(list ...int) []int { return list }

func span(lo, hi int) level.Range { return level.Range{Lo: lo, Hi: hi} }

func ranges(ends ...int) []level.Range {
	var list []level.Range
	for i := 0; i < len(ends); i += 2 {
		list = append(list, span(ends[i], ends[i+1]))
	}
	return list
}

// one is a line that is read at one end, two one that is read at both.
func one(from, to, up, err int) level.Line {
	return level.Line{From: from, To: to, Up: up, Error: err}
}

func two(from, to, up, down, err int) level.Line {
	return level.Line{From: from, To: to, Up: up, Down: down, Both: true, Error: err}
}

func lines(list ...level.Line) []level.Line { return list }

// land is the land of chapter 1.
func land() hill.Land {
	return hill.Land{
		Stations: []hill.Station{{X: 10, Y: 10, Z: 100, Mirrors: 1}, {X: 30, Y: 10, Z: 200, Mirrors: 1}, {X: 10, Y: 30, Z: 50, Mirrors: 2}},
		Ridges:   []hill.Wall{{X1: 20, Y1: 5, X2: 20, Y2: 15, Top: 149}},
		Cases:    [][]hill.Cloud{nil, {{Wall: hill.Wall{X1: 5, Y1: 20, X2: 25, Y2: 20, Top: 80}, From: 1, To: 2}}},
		Sun:      []hill.Sun{{East: 50}, {East: 50, Up: 20}, {East: -50, Up: 30}},
	}
}

// example is the survey of the chapter.
func example() level.Survey {
	return level.Survey{Land: land(), Known: ranges(100, 100, 180, 230, 0, 300), Bends: span(0, 10), Lines: lines(one(0, 1, 104, 1), two(1, 2, -148, 156, 1))}
}

// changed is the example after a change.
func changed(change func(s *level.Survey)) level.Survey {
	s := example()
	change(&s)
	return s
}

// with is the example with these lines, and any heights.
func with(list ...level.Line) level.Survey {
	return changed(func(s *level.Survey) { s.Known, s.Lines = ranges(0, 1000, 0, 1000, 0, 1000), list })
}

// full has as much of everything as a survey can have.
func full() level.Survey {
	return changed(func(s *level.Survey) {
		s.Land = raised(s.Land, numbers(1000, 1000, 1000))
		for i := range 3 {
			s.Land.Stations = append(s.Land.Stations, hill.Station{X: i, Y: 100, Z: 1000, Mirrors: 2})
		}
		s.Land.Ridges = slices.Repeat([]hill.Wall{{X1: 0, Y1: 20, X2: 100, Y2: 20, Top: 1000}}, 6)
		s.Known, s.Bends = slices.Repeat(ranges(0, 1000), 6), span(0, 50)
		s.Lines = slices.Repeat(lines(two(0, 5, 1200, -1200, 50)), 8)
	})
}

// input has the arguments of all calls.
type input struct {
	survey             level.Survey
	line, from, to, at int
	high               bool
}

// all has the results of each call that has an error.
func (in input) all() []any {
	e0 := level.CheckSurvey(in.survey)
	allows, e1 := level.Allows(in.survey, in.line)
	heights, e2 := level.Heights(in.survey)
	difference, e3 := level.Difference(in.survey, in.from, in.to)
	bends, e4 := level.Bendings(in.survey)
	truth, e5 := level.Show(in.survey, in.at, in.high)
	sure, may, e6 := level.Free(in.survey, in.from, in.to)
	leave, e7 := level.Leave(in.survey)
	return []any{e0, allows, e1, heights, e2, difference, e3, bends, e4, truth.Height, truth.Bend, e5, sure, may, e6, leave, e7}
}

// errorsOf picks the errors from the results of all: CheckSurvey, Allows, Heights, Difference, Bendings, Show, Free, Leave.
func errorsOf(results []any) []api.Errno {
	var list []api.Errno
	for _, x := range results {
		if e, ok := x.(api.Errno); ok {
			list = append(list, e)
		}
	}
	return list
}

// failed checks that a call with an error has no other result.
func failed(t *testing.T, results []any) {
	t.Helper()
	start := 0
	for i, x := range results {
		e, ok := x.(api.Errno)
		if !ok {
			continue
		}
		if e != api.OK && slices.ContainsFunc(results[start:i], isSome) {
			t.Errorf("%v with %v in %v", results[start:i], e, results)
		}
		start = i + 1
	}
}

// isSome tells whether a result is not the zero value.
func isSome(x any) bool {
	v := reflect.ValueOf(x)
	return v.Kind() == reflect.Slice && v.Len() > 0 || v.Kind() != reflect.Slice && !v.IsZero()
}

// P9.1: what a survey can have.
func TestCheckSurvey(t *testing.T) {
	low, high := math.MinInt, math.MaxInt
	known := func(list ...int) level.Survey {
		return changed(func(s *level.Survey) { s.Known = ranges(list...) })
	}
	last := func(lo, hi int) level.Survey { return known(100, 100, 180, 230, lo, hi) }
	bends := func(lo, hi int) level.Survey {
		return changed(func(s *level.Survey) { s.Bends = span(lo, hi) })
	}
	line := func(l level.Line) level.Survey {
		return changed(func(s *level.Survey) { s.Lines[1] = l })
	}
	many := func(many int) level.Survey {
		return changed(func(s *level.Survey) { s.Lines = slices.Repeat(s.Lines[:1], many) })
	}
	hills := func(change func(l *hill.Land)) level.Survey {
		return changed(func(s *level.Survey) { change(&s.Land) })
	}
	for _, x := range []struct {
		what string
		s    level.Survey
		want api.Errno
	}{
		{"the example", example(), api.OK}, {"a full survey", full(), api.OK}, {"nothing", level.Survey{}, api.ErrArg}, {"readings that contradict each other", with(one(0, 1, 5, 0), one(1, 0, 5, 0), two(0, 1, 9, 9, 0)), api.OK},
		{"no station", hills(func(l *hill.Land) { l.Stations = nil }), api.ErrArg}, {"seven stations", hills(func(l *hill.Land) { l.Stations = make([]hill.Station, 7) }), api.ErrLimit}, {"a station too high", hills(func(l *hill.Land) { l.Stations[2].Z = 1001 }), api.ErrArg}, {"seven ridges", hills(func(l *hill.Land) { l.Ridges = slices.Repeat(l.Ridges, 7) }), api.ErrLimit}, {"no case", hills(func(l *hill.Land) { l.Cases = nil }), api.ErrArg}, {"no hour", hills(func(l *hill.Land) { l.Sun, l.Cases = nil, l.Cases[:1] }), api.ErrArg}, {"13 hours", hills(func(l *hill.Land) { l.Sun = make([]hill.Sun, 13) }), api.ErrLimit}, {"a wrong cloud", hills(func(l *hill.Land) { l.Cases[1][0].To = 3 }), api.ErrArg},
		{"one station", changed(func(s *level.Survey) { s.Land.Stations, s.Known, s.Lines = s.Land.Stations[:1], s.Known[:1], nil }), api.OK}, {"one more station", hills(func(l *hill.Land) { l.Stations = append(l.Stations, hill.Station{Mirrors: 1}) }), api.ErrArg}, {"one station less", hills(func(l *hill.Land) { l.Stations = l.Stations[:2] }), api.ErrArg},
		{"nothing known", known(), api.ErrArg}, {"two ranges", known(0, 1, 0, 1), api.ErrArg}, {"four ranges", known(0, 1, 0, 1, 0, 1, 0, 1), api.ErrArg}, {"any height", last(0, 1000), api.OK}, {"the greatest height", last(1000, 1000), api.OK}, {"the smallest height", last(0, 0), api.OK}, {"a height above 1000", last(0, 1001), api.ErrArg}, {"heights above 1000", last(1001, 1001), api.ErrArg}, {"a height below 0", last(-1, 300), api.ErrArg}, {"heights below 0", last(-1, -1), api.ErrArg}, {"no height", last(1, 0), api.ErrArg}, {"all numbers as a height", last(low, high), api.ErrArg},
		{"any bending", bends(0, 50), api.OK}, {"no bending", bends(0, 0), api.OK}, {"the most bending", bends(50, 50), api.OK}, {"more bending", bends(0, 51), api.ErrArg}, {"much more bending", bends(51, 51), api.ErrArg}, {"bending below 0", bends(-1, 10), api.ErrArg}, {"all bending below 0", bends(-1, -1), api.ErrArg}, {"bendings that are none", bends(3, 2), api.ErrArg}, {"all numbers as bendings", bends(low, high), api.ErrArg},
		{"no line", many(0), api.OK}, {"eight lines", many(8), api.OK}, {"nine lines", many(9), api.ErrLimit}, {"nine wrong lines", changed(func(s *level.Survey) { s.Lines, s.Known = make([]level.Line, 9), nil }), api.ErrLimit}, {"nine lines in a wrong land", changed(func(s *level.Survey) { s.Lines, s.Land.Ridges[0].Base = make([]level.Line, 9), 1 }), api.ErrArg}, {"nine lines in a land of too much", changed(func(s *level.Survey) { s.Known, s.Land.Stations = nil, make([]hill.Station, 7) }), api.ErrLimit},
		{"a line to its station", line(one(1, 1, 0, 0)), api.ErrArg}, {"a line from no station", line(one(-1, 1, 0, 0)), api.ErrArg}, {"a line to no station", line(one(1, -1, 0, 0)), api.ErrArg}, {"a line from a later station", line(one(3, 1, 0, 0)), api.ErrArg}, {"a line to a later station", line(one(1, 3, 0, 0)), api.ErrArg}, {"a line to the last station", line(one(0, 2, 0, 0)), api.OK}, {"a line from the last station", line(one(2, 0, 0, 0)), api.OK}, {"the greatest stations", line(one(high, low, 0, 0)), api.ErrArg},
		{"the greatest Up", line(one(0, 1, 1200, 0)), api.OK}, {"a greater Up", line(one(0, 1, 1201, 0)), api.ErrArg}, {"the smallest Up", line(one(0, 1, -1200, 0)), api.OK}, {"a smaller Up", line(one(0, 1, -1201, 0)), api.ErrArg}, {"the greatest number as Up", line(one(0, 1, high, 0)), api.ErrArg}, {"the smallest number as Up", line(one(0, 1, low, 0)), api.ErrArg},
		{"the greatest Down", line(two(0, 1, 0, 1200, 0)), api.OK}, {"a greater Down", line(two(0, 1, 0, 1201, 0)), api.ErrArg}, {"the smallest Down", line(two(0, 1, 0, -1200, 0)), api.OK}, {"a smaller Down", line(two(0, 1, 0, -1201, 0)), api.ErrArg}, {"the greatest number as Down", line(two(0, 1, 0, high, 0)), api.ErrArg}, {"the smallest number as Down", line(two(0, 1, 0, low, 0)), api.ErrArg}, {"Down of one end", line(level.Line{From: 0, To: 1, Down: 1}), api.ErrArg}, {"Down below 0 of one end", line(level.Line{From: 0, To: 1, Down: -1}), api.ErrArg}, {"no Down of both ends", line(two(0, 1, 0, 0, 0)), api.OK},
		{"the greatest error", line(one(0, 1, 0, 50)), api.OK}, {"a greater error", line(one(0, 1, 0, 51)), api.ErrArg}, {"an error below 0", line(one(0, 1, 0, -1)), api.ErrArg}, {"the greatest number as error", line(one(0, 1, 0, high)), api.ErrArg}, {"the smallest number as error", line(one(0, 1, 0, low)), api.ErrArg}, {"a wrong line at first", changed(func(s *level.Survey) { s.Lines[0].Error = 51 }), api.ErrArg},
	} {
		if e := level.CheckSurvey(x.s); e != x.want {
			t.Errorf("CheckSurvey of %s: %v, not %v", x.what, e, x.want)
		}
		if x.want != api.OK && level.ProveTruth(x.s, level.Truth{Height: numbers(100, 200, 50), Bend: numbers(4, 4)}) {
			t.Errorf("ProveTruth with %s", x.what)
		}
	}
}

// P9.1
func TestProveTruth(t *testing.T) {
	exact := changed(func(s *level.Survey) { s.Lines = lines(two(0, 1, 104, -96, 0), one(2, 0, 52, 2)) })
	for _, x := range []struct {
		what         string
		s            level.Survey
		height, bend []int
		want         bool
	}{
		{"a truth of the example", example(), numbers(100, 200, 48), numbers(4, 4), true}, {"another one", example(), numbers(100, 193, 40), numbers(10, 4), true}, {"the greatest heights", example(), numbers(100, 205, 54), numbers(0, 4), true}, {"the greatest bendings", example(), numbers(100, 194, 42), numbers(10, 5), true},
		{"Up less by the error", example(), numbers(100, 200, 48), numbers(3, 4), true}, {"Up less by more", example(), numbers(100, 200, 48), numbers(2, 4), false}, {"Up more by the error", example(), numbers(100, 200, 48), numbers(5, 4), true}, {"Up more by more", example(), numbers(100, 200, 48), numbers(6, 4), false},
		{"Down less by the error", example(), numbers(100, 200, 48), numbers(4, 5), true}, {"Down more by the error", example(), numbers(100, 200, 48), numbers(4, 3), true}, {"Up of the second line less by more", example(), numbers(100, 200, 46), numbers(4, 4), false}, {"Down of it less by more", example(), numbers(100, 200, 50), numbers(4, 4), false},
		{"a height that is not known", example(), numbers(101, 200, 48), numbers(4, 4), false}, {"a height below Known", changed(func(s *level.Survey) { s.Known[2].Lo = 49 }), numbers(100, 200, 48), numbers(4, 4), false}, {"a height above Known", changed(func(s *level.Survey) { s.Known[2].Hi = 47 }), numbers(100, 200, 48), numbers(4, 4), false}, {"heights at both ends of Known", changed(func(s *level.Survey) { s.Known[1].Lo, s.Known[2].Hi = 200, 48 }), numbers(100, 200, 48), numbers(4, 4), true},
		{"bending above Bends", changed(func(s *level.Survey) { s.Bends.Hi = 3 }), numbers(100, 200, 48), numbers(3, 4), false}, {"bending below Bends", changed(func(s *level.Survey) { s.Bends.Lo = 4 }), numbers(100, 200, 48), numbers(4, 3), false}, {"bending at both ends of Bends", changed(func(s *level.Survey) { s.Bends = span(4, 5) }), numbers(100, 200, 48), numbers(4, 5), true},
		{"no height", example(), nil, numbers(4, 4), false}, {"no bending", example(), numbers(100, 200, 48), nil, false}, {"a height less", example(), numbers(100, 200), numbers(4, 4), false}, {"a height more", example(), numbers(100, 200, 48, 0), numbers(4, 4), false}, {"a bending less", example(), numbers(100, 200, 48), numbers(4), false}, {"a bending more", example(), numbers(100, 200, 48), numbers(4, 4, 4), false}, {"nothing", example(), nil, nil, false}, {"nothing of nothing", level.Survey{}, nil, nil, false},
		{"the greatest numbers", example(), numbers(100, math.MaxInt, 48), numbers(4, math.MaxInt), false}, {"the smallest numbers", example(), numbers(100, 200, 48), numbers(math.MinInt, 4), false}, {"a small height", example(), numbers(100, math.MinInt, 48), numbers(4, 4), false},
		{"without an error", exact, numbers(100, 200, 48), numbers(4, 2), true}, {"Up differs", exact, numbers(100, 201, 48), numbers(4, 2), false}, {"Down differs", changed(func(s *level.Survey) { s.Lines = lines(two(0, 1, 104, -95, 0)) }), numbers(100, 200, 48), numbers(4), false}, {"bending differs", exact, numbers(100, 200, 48), numbers(5, 2), false}, {"what one end reads down", with(one(0, 1, 3, 0)), numbers(0, 3, 0), numbers(0), true}, {"what both ends read down", with(two(0, 1, 3, 0, 0)), numbers(0, 3, 0), numbers(0), false},
	} {
		if got := level.ProveTruth(x.s, level.Truth{Height: x.height, Bend: x.bend}); got != x.want {
			t.Errorf("ProveTruth with %s: %v", x.what, got)
		}
	}
}

// P9.2
func TestAllows(t *testing.T) {
	for _, x := range []struct {
		what  string
		bends level.Range
		line  level.Line
		want  level.Range
		e     api.Errno
	}{
		{"the first line of the example", span(0, 10), one(0, 1, 104, 1), span(93, 105), api.OK}, {"its second line", span(0, 10), two(1, 2, -148, 156, 1), span(-153, -151), api.OK}, {"one end without an error", span(0, 10), one(0, 1, 104, 0), span(94, 104), api.OK}, {"one end with known bending", span(7, 7), one(0, 1, 104, 2), span(95, 99), api.OK}, {"all known", span(7, 7), one(0, 1, 104, 0), span(97, 97), api.OK},
		{"more than heights can differ by", span(0, 0), one(0, 1, 1200, 0), span(1200, 1200), api.OK}, {"less than that", span(0, 50), one(0, 1, -1200, 50), span(-1300, -1150), api.OK}, {"more than Known allows", span(0, 0), one(0, 1, 900, 3), span(897, 903), api.OK},
		{"half of both", span(0, 50), two(0, 1, 30, -10, 0), span(20, 20), api.OK}, {"half of an odd number", span(0, 50), two(0, 1, 31, -10, 0), span(0, 0), api.ErrFalse}, {"half of an odd number with an error", span(0, 50), two(0, 1, 31, -10, 1), span(20, 21), api.OK}, {"half of an odd number below 0", span(0, 50), two(0, 1, -10, 31, 1), span(-21, -20), api.OK}, {"half of an odd number with a large error", span(0, 50), two(0, 1, -10, 31, 5), span(-25, -16), api.OK},
		{"too much bending", span(0, 9), two(0, 1, 30, -10, 0), span(0, 0), api.ErrFalse}, {"too little bending", span(11, 20), two(0, 1, 30, -10, 0), span(0, 0), api.ErrFalse}, {"just enough bending", span(0, 10), two(0, 1, 30, -10, 0), span(20, 20), api.OK}, {"the least bending", span(10, 50), two(0, 1, 30, -10, 0), span(20, 20), api.OK},
		{"much bending, of which an error is a part", span(0, 8), two(0, 1, 30, -10, 2), span(20, 20), api.OK}, {"another part", span(0, 8), two(0, 1, 30, -10, 3), span(19, 21), api.OK}, {"little bending, of which an error is a part", span(12, 20), two(0, 1, 30, -10, 2), span(20, 20), api.OK}, {"the part is too small", span(12, 20), two(0, 1, 30, -10, 1), span(0, 0), api.ErrFalse},
		{"the greatest readings", span(0, 50), two(0, 1, 1200, 1200, 50), span(0, 0), api.ErrFalse}, {"the greatest difference", span(0, 50), two(0, 1, 1200, -1200, 50), span(1150, 1250), api.OK}, {"no reading", span(0, 0), two(0, 1, 0, 0, 0), span(0, 0), api.OK},
	} {
		s := example()
		s.Bends, s.Lines = x.bends, lines(one(0, 2, 0, 0), x.line)
		if r, e := level.Allows(s, 1); r != x.want || e != x.e {
			t.Errorf("Allows with %s: %v, %v, not %v, %v", x.what, r, e, x.want, x.e)
		}
	}
	for _, line := range numbers(math.MinInt, -1, 2, 3, math.MaxInt) {
		if r, e := level.Allows(example(), line); r != span(0, 0) || e != api.ErrRange {
			t.Errorf("Allows of the line %d: %v, %v", line, r, e)
		}
	}
}

// flat is the survey of lines between any heights, without bending.
func flat(list ...level.Line) level.Survey {
	s := with(list...)
	s.Bends = span(0, 0)
	return s
}

// differ is a line without an error, for flat.
func differ(from, to, difference int) level.Line { return one(from, to, difference, 0) }

// P9.3, P9.4
func TestBounds(t *testing.T) {
	around := lines(one(0, 1, 105, 0), one(1, 2, -140, 0), one(2, 0, 60, 0))
	more := func(l level.Line) level.Survey {
		return changed(func(s *level.Survey) { s.Lines = append(s.Lines, l) })
	}
	for _, x := range []struct {
		what                string
		s                   level.Survey
		heights, bends      []level.Range
		zeroToTwo, oneToTwo level.Range
	}{
		{"the example", example(), ranges(100, 100, 193, 205, 40, 54), ranges(0, 10, 3, 5), span(-60, -46), span(-153, -151)}, {"no lines", changed(func(s *level.Survey) { s.Lines = nil }), ranges(100, 100, 180, 230, 0, 300), nil, span(-100, 200), span(-230, 120)}, {"the first line", changed(func(s *level.Survey) { s.Lines = s.Lines[:1] }), ranges(100, 100, 193, 205, 0, 300), ranges(0, 10), span(-100, 200), span(-205, 107)}, {"the second line", changed(func(s *level.Survey) { s.Lines = s.Lines[1:] }), ranges(100, 100, 180, 230, 27, 79), ranges(3, 5), span(-73, -21), span(-153, -151)},
		{"a line twice", more(one(0, 1, 104, 1)), ranges(100, 100, 193, 205, 40, 54), ranges(0, 10, 3, 5, 0, 10), span(-60, -46), span(-153, -151)}, {"a line back", more(one(1, 0, -95, 1)), ranges(100, 100, 194, 205, 41, 54), ranges(0, 10, 3, 5, 0, 10), span(-59, -46), span(-153, -151)}, {"a line back that says more", more(one(1, 0, -99, 0)), ranges(100, 100, 199, 205, 46, 54), ranges(0, 6, 3, 5, 0, 6), span(-54, -46), span(-153, -151)},
		{"a height at an end", changed(func(s *level.Survey) { s.Known[2].Lo = 54 }), ranges(100, 100, 205, 205, 54, 54), ranges(0, 0, 4, 4), span(-46, -46), span(-151, -151)}, {"a height that narrows a bending", changed(func(s *level.Survey) { s.Known[1].Hi = 194 }), ranges(100, 100, 193, 194, 40, 43), ranges(9, 10, 3, 5), span(-60, -57), span(-153, -151)}, {"bendings from one number on", changed(func(s *level.Survey) { s.Bends.Lo = 5 }), ranges(100, 100, 193, 200, 41, 48), ranges(5, 10, 5, 5), span(-59, -52), span(-152, -152)},
		{"lines around", with(around...), ranges(50, 905, 145, 1000, 0, 855), ranges(5, 10, 5, 10, 5, 10), span(-55, -50), span(-150, -145)}, {"lines around at known heights", changed(func(s *level.Survey) { s.Lines = around }), ranges(100, 100, 195, 200, 45, 50), ranges(5, 10, 5, 10, 5, 10), span(-55, -50), span(-150, -145)},
		{"differences from end to end", flat(differ(0, 1, 1000)), ranges(0, 0, 1000, 1000, 0, 1000), ranges(0, 0), span(0, 1000), span(-1000, 0)}, {"a chain", flat(differ(0, 1, 300), differ(2, 1, -400)), ranges(0, 300, 300, 600, 700, 1000), ranges(0, 0, 0, 0), span(700, 700), span(400, 400)},
	} {
		heights, e := level.Heights(x.s)
		bends, f := level.Bendings(x.s)
		if !slices.Equal(heights, x.heights) || e != api.OK || !slices.Equal(bends, x.bends) || f != api.OK {
			t.Errorf("Heights, Bendings with %s: %v, %v; %v, %v, not %v; %v", x.what, heights, e, bends, f, x.heights, x.bends)
		}
		first, e := level.Difference(x.s, 0, 2)
		second, f := level.Difference(x.s, 1, 2)
		if first != x.zeroToTwo || e != api.OK || second != x.oneToTwo || f != api.OK {
			t.Errorf("Difference with %s: %v, %v; %v, %v, not %v; %v", x.what, first, e, second, f, x.zeroToTwo, x.oneToTwo)
		}
		for station := range x.heights {
			shown(t, x.s, station, false, x.heights[station].Lo)
			shown(t, x.s, station, true, x.heights[station].Hi)
		}
	}
	s := full()
	s.Lines = slices.Repeat(lines(two(0, 5, 1000, -1000, 50)), 8)
	heights, e := level.Heights(s)
	bends, f := level.Bendings(s)
	if !slices.Equal(heights, ranges(0, 50, 0, 1000, 0, 1000, 0, 1000, 0, 1000, 950, 1000)) || !slices.Equal(bends, slices.Repeat(ranges(0, 50), 8)) || e != api.OK || f != api.OK {
		t.Errorf("a full survey: %v, %v; %v, %v", heights, e, bends, f)
	}
}

// shown checks that Show returns a truth in which the station has this height.
func shown(t *testing.T, s level.Survey, station int, high bool, height int) {
	t.Helper()
	x, e := level.Show(s, station, high)
	if e != api.OK || !level.ProveTruth(s, x) || x.Height[station] != height {
		t.Fatalf("%v: Show of %d, %v: %v, %v, not with %d", s, station, high, x, e, height)
	}
}

// P9.6
func TestFree(t *testing.T) {
	known := func(list ...int) level.Survey {
		return changed(func(s *level.Survey) { s.Known, s.Lines = ranges(list...), nil })
	}
	hills := func(change func(l *hill.Land)) level.Survey {
		return changed(func(s *level.Survey) { change(&s.Land) })
	}
	again := func(walls ...hill.Wall) func(l *hill.Land) {
		return func(l *hill.Land) { l.Ridges = append(l.Ridges, walls...) }
	}
	for _, x := range []struct {
		what      string
		s         level.Survey
		from, to  int
		sure, may bool
	}{
		{"the example", example(), 0, 1, false, true}, {"the other way round", example(), 1, 0, false, true}, {"no ridge between", example(), 0, 2, true, true}, {"no ridge there", example(), 1, 2, true, true},
		{"just over the ridge", known(100, 100, 199, 199, 0, 0), 0, 1, true, true}, {"just at the ridge", known(100, 100, 198, 198, 0, 0), 0, 1, false, false}, {"at the ridge, or over it", known(100, 100, 198, 199, 0, 0), 0, 1, false, true}, {"both are not known", known(99, 100, 198, 199, 0, 0), 0, 1, false, true}, {"both are too low at most", known(0, 100, 0, 198, 0, 1000), 0, 1, false, false}, {"both are high enough", known(100, 1000, 199, 1000, 0, 0), 0, 1, true, true}, {"one is much higher", known(0, 0, 299, 299, 0, 0), 0, 1, true, true}, {"on the ground", known(0, 0, 0, 0, 0, 0), 0, 2, true, true},
		{"heights that are higher together", changed(func(s *level.Survey) {
			s.Lines, s.Known = lines(two(0, 1, 100, -100, 0)), ranges(99, 100, 0, 300, 0, 0)
		}), 0, 1, false, true}, {"heights that are high together", changed(func(s *level.Survey) {
			s.Lines, s.Known = lines(two(0, 1, 100, -100, 0)), ranges(0, 110, 200, 300, 0, 0)
		}), 0, 1, true, true}, {"heights that cannot be high together", changed(func(s *level.Survey) { s.Lines, s.Known = lines(two(0, 1, 150, -150, 0)), ranges(0, 300, 0, 223, 0, 0) }), 0, 1, false, false},
		{"other heights in the land", hills(func(l *hill.Land) { *l = raised(*l, numbers(1000, 1000, 1000)) }), 0, 1, false, true}, {"other heights in the land, on the ground", hills(func(l *hill.Land) { *l = raised(*l, numbers(0, 0, 0)) }), 0, 1, false, true}, {"clouds in the first case", hills(func(l *hill.Land) { l.Cases[0], l.Cases[1][0].From = l.Cases[1], 0 }), 0, 2, true, true},
		{"a lower ridge", hills(func(l *hill.Land) { l.Ridges[0].Top = 146 }), 0, 1, true, true}, {"a ridge as high as the lowest line", hills(func(l *hill.Land) { l.Ridges[0].Top = 147 }), 0, 1, false, true}, {"a ridge as high as the highest line", hills(func(l *hill.Land) { l.Ridges[0].Top = 152 }), 0, 1, false, true}, {"a ridge above all lines", hills(func(l *hill.Land) { l.Ridges[0].Top = 153 }), 0, 1, false, false}, {"no ridge at all", hills(func(l *hill.Land) { l.Ridges = nil }), 0, 1, true, true},
		{"a second ridge that never blocks", hills(again(hill.Wall{X1: 15, Y1: 5, X2: 15, Y2: 15, Top: 10})), 0, 1, false, true}, {"a second ridge that always blocks", hills(again(hill.Wall{X1: 15, Y1: 5, X2: 15, Y2: 15, Top: 127})), 0, 1, false, false}, {"a second ridge that blocks at times", hills(again(hill.Wall{X1: 15, Y1: 5, X2: 15, Y2: 15, Top: 126})), 0, 1, false, true}, {"a second ridge elsewhere", hills(again(hill.Wall{X1: 15, Y1: 11, X2: 15, Y2: 15, Top: 1000})), 0, 1, false, true},
	} {
		if sure, may, e := level.Free(x.s, x.from, x.to); sure != x.sure || may != x.may || e != api.OK {
			t.Errorf("Free with %s: %v, %v, %v, not %v, %v", x.what, sure, may, e, x.sure, x.may)
		}
	}
}

// P9.7
func TestLeave(t *testing.T) {
	for _, x := range []struct {
		what string
		s    level.Survey
		want []int
	}{
		{"the example", example(), nil}, {"one line more", changed(func(s *level.Survey) { s.Lines = append(s.Lines, one(0, 2, -20, 5)) }), numbers(0)}, {"no lines", flat(), nil}, {"a line that Known does not allow", changed(func(s *level.Survey) { s.Lines[1] = one(0, 1, 79, 0) }), numbers(1)}, {"a line that Known just allows", changed(func(s *level.Survey) { s.Lines = lines(one(0, 1, 80, 0)) }), nil},
		{"a line that allows nothing", flat(two(0, 1, 31, -10, 0)), numbers(0)}, {"a line that allows too much", flat(one(0, 1, 1001, 0)), numbers(0)}, {"a line that allows as much as there is", flat(one(0, 1, 1001, 1)), nil}, {"a line that allows nothing among others", flat(differ(0, 1, 5), two(1, 2, 1, 0, 0), differ(0, 1, 5)), numbers(1)},
		{"one of two", flat(differ(0, 1, 5), differ(0, 1, 6)), numbers(0)}, {"one against two", flat(differ(0, 1, 5), differ(0, 1, 6), differ(1, 0, -5)), numbers(1)}, {"the last one", flat(differ(0, 1, 5), differ(0, 1, 5), differ(0, 1, 6)), numbers(2)}, {"two against two", flat(differ(0, 1, 5), differ(0, 1, 6), differ(0, 1, 6), differ(1, 0, -5)), numbers(0, 3)}, {"each alone", flat(differ(0, 1, 1), differ(0, 1, 2), differ(0, 1, 3), differ(0, 1, 4), differ(0, 1, 5), differ(0, 1, 6), differ(0, 1, 7), differ(0, 1, 8)), numbers(0, 1, 2, 3, 4, 5, 6)}, {"none can be true", flat(slices.Repeat(lines(one(0, 1, 1200, 50)), 8)...), upTo(8)},
		{"three around", flat(differ(0, 1, 5), differ(1, 2, 5), differ(2, 0, -11)), numbers(0)}, {"three that agree", flat(differ(0, 1, 5), differ(1, 2, 5), differ(2, 0, -10)), nil}, {"three around, one of them twice", flat(differ(0, 1, 5), differ(1, 2, 5), differ(2, 0, -11), differ(0, 1, 5)), numbers(1)}, {"three around, two of them twice", flat(differ(0, 1, 5), differ(1, 2, 5), differ(2, 0, -11), differ(0, 1, 5), differ(1, 2, 5)), numbers(2)}, {"three around, all of them twice", flat(slices.Repeat(lines(differ(0, 1, 5), differ(1, 2, 5), differ(2, 0, -11)), 2)...), numbers(0, 3)},
		{"errors that are just large enough", flat(one(0, 1, 5, 1), differ(1, 2, 5), differ(2, 0, -11)), nil}, {"bending that is just enough", changed(func(s *level.Survey) {
			s.Known, s.Bends, s.Lines = flat().Known, span(2, 3), lines(differ(0, 1, 5), differ(1, 0, 1))
		}), nil}, {"bending that is not enough", changed(func(s *level.Survey) {
			s.Known, s.Bends, s.Lines = flat().Known, span(2, 2), lines(differ(0, 1, 5), differ(1, 0, 0))
		}), numbers(0)},
	} {
		if list, e := level.Leave(x.s); !slices.Equal(list, x.want) || e != api.OK {
			t.Errorf("Leave with %s: %v, %v, not %v", x.what, list, e, x.want)
		}
		want := api.OK
		if len(x.want) > 0 {
			want = api.ErrFail
		}
		results := input{survey: x.s, from: 0, to: 1}.all()
		failed(t, results)
		for i, e := range errorsOf(results) {
			if i >= 2 && i <= 6 && e != want {
				t.Errorf("the call %d with %s: %v, not %v", i, x.what, e, want)
			}
		}
	}
}

// P9.1 to P9.7: the errors of all calls, in their order.
func TestErrorsInOrder(t *testing.T) {
	good := input{survey: example(), line: 1, from: 0, to: 2, at: 1}
	with := func(change func(in *input)) input {
		in := good
		in.survey = cloneSurvey(in.survey)
		change(&in)
		return in
	}
	all := func(e api.Errno) []api.Errno { return slices.Repeat([]api.Errno{e}, 8) }
	ok, range0, limit, arg, twice, fail := api.OK, api.ErrRange, api.ErrLimit, api.ErrArg, api.ErrTwice, api.ErrFail
	spoilt := input{line: 9, from: 9, to: 9, at: 9}
	odd := func(in *input) { in.survey.Lines[1].Up = 0 }
	noLine, noStation, noAt := []api.Errno{ok, range0, ok, ok, ok, ok, ok, ok}, []api.Errno{ok, ok, ok, range0, ok, ok, range0, ok}, []api.Errno{ok, ok, ok, ok, ok, range0, ok, ok}
	for _, x := range []struct {
		what string
		in   input
		want []api.Errno
	}{
		{"what is valid", good, all(ok)}, {"the last station", with(func(in *input) { in.line, in.from, in.to, in.at = 0, 2, 1, 2 }), all(ok)}, {"nothing", input{}, all(arg)}, {"no survey", spoilt, all(arg)},
		{"too large a land, too many lines", with(func(in *input) {
			*in = spoilt
			in.survey.Land.Stations, in.survey.Lines = make([]hill.Station, 7), make([]level.Line, 9)
		}), all(limit)}, {"a wrong land, too many lines", with(func(in *input) { *in = spoilt; in.survey.Lines = make([]level.Line, 9) }), all(arg)}, {"too many lines, and wrong ones", with(func(in *input) { *in = spoilt; in.survey = example(); in.survey.Lines = make([]level.Line, 9) }), all(limit)}, {"a wrong survey", with(func(in *input) { *in = spoilt; in.survey = example(); in.survey.Bends.Hi = 51 }), all(arg)}, {"a wrong line", with(func(in *input) { *in = spoilt; in.survey = example(); in.survey.Lines[1].To = 3 }), all(arg)},
		{"all but the survey", with(func(in *input) { *in = spoilt; in.survey = example() }), []api.Errno{ok, range0, ok, range0, ok, range0, range0, ok}}, {"a line below 0", with(func(in *input) { in.line = -1 }), noLine}, {"a later line", with(func(in *input) { in.line = 2 }), noLine}, {"the greatest line", with(func(in *input) { in.line = math.MaxInt }), noLine}, {"the smallest line", with(func(in *input) { in.line = math.MinInt }), noLine}, {"no line at all", with(func(in *input) { in.line, in.survey.Lines = 0, nil }), noLine},
		{"a station below 0", with(func(in *input) { in.from = -1 }), noStation}, {"a later station", with(func(in *input) { in.from = 3 }), noStation}, {"to a station below 0", with(func(in *input) { in.to = -1 }), noStation}, {"to a later station", with(func(in *input) { in.to = 3 }), noStation}, {"the same wrong station", with(func(in *input) { in.from, in.to = 3, 3 }), noStation}, {"the greatest station", with(func(in *input) { in.from, in.to = math.MaxInt, math.MaxInt }), noStation}, {"the smallest station", with(func(in *input) { in.to = math.MinInt }), noStation},
		{"to show a station below 0", with(func(in *input) { in.at = -1 }), noAt}, {"to show a later station", with(func(in *input) { in.at = 3 }), noAt}, {"to show the greatest station", with(func(in *input) { in.at, in.high = math.MaxInt, true }), noAt}, {"to show the smallest station", with(func(in *input) { in.at = math.MinInt }), noAt},
		{"the same station", with(func(in *input) { in.from = 2 }), []api.Errno{ok, ok, ok, twice, ok, ok, twice, ok}}, {"the first station twice", with(func(in *input) { in.from, in.to, in.at = 0, 0, 0 }), []api.Errno{ok, ok, ok, twice, ok, ok, twice, ok}},
		{"no truth", with(odd), []api.Errno{ok, api.ErrFalse, fail, fail, fail, fail, fail, ok}}, {"no truth, but an allowed line", with(func(in *input) { odd(in); in.line = 0 }), []api.Errno{ok, ok, fail, fail, fail, fail, fail, ok}}, {"no truth, and no such station", with(func(in *input) { *in = spoilt; in.survey = example(); odd(in) }), []api.Errno{ok, range0, fail, range0, fail, range0, range0, ok}}, {"no truth, and the same station", with(func(in *input) { odd(in); in.from = 2 }), []api.Errno{ok, api.ErrFalse, fail, twice, fail, fail, twice, ok}}, {"no truth by Known", with(func(in *input) { in.survey.Known[1].Lo = 206 }), []api.Errno{ok, ok, fail, fail, fail, fail, fail, ok}},
	} {
		results := x.in.all()
		if list := errorsOf(results); !slices.Equal(list, x.want) {
			t.Errorf("%s: %v, not %v", x.what, list, x.want)
		}
		failed(t, results)
	}
}

// allowsAsTheModel compares Allows with the second reading.
func allowsAsTheModel(t *testing.T, s level.Survey, seen map[string]int) {
	t.Helper()
	for i, l := range s.Lines {
		want, many := modelAllows(s, l)
		got, e := level.Allows(s, i)
		switch {
		case many == 0:
			seen["nothing"]++
			want = span(0, 0)
		case want.Hi-want.Lo+1 != many:
			t.Fatalf("%v: the line %d allows only %d of %v", s, i, many, want)
		}
		if got != want || (e == api.OK) != (many > 0) || e != api.OK && e != api.ErrFalse {
			t.Fatalf("%v: Allows of %d: %v, %v, not %v", s, i, got, e, want)
		}
	}
}

// boundsAsTheModel compares the bounds with those of all truths.
func boundsAsTheModel(t *testing.T, s level.Survey, open solver, seen map[string]int) {
	t.Helper()
	want, e := open(s), api.OK
	if want.many == 0 {
		e = api.ErrFail
		seen["odd"]++
	}
	heights, f := level.Heights(s)
	bends, g := level.Bendings(s)
	if f != e || g != e || e == api.OK && (!slices.Equal(heights, rangesOf(want.heights)) || !slices.Equal(bends, rangesOf(want.bends))) {
		t.Fatalf("%v: Heights, Bendings: %v, %v; %v, %v, not %v", s, heights, f, bends, g, want)
	}
	for from := range s.Known {
		for to := range s.Known {
			if from == to {
				continue
			}
			got, f := level.Difference(s, from, to)
			if f != e || got != want.between[from][to].Range {
				t.Fatalf("%v: Difference from %d to %d: %v, %v, not %v", s, from, to, got, f, want.between[from][to])
			}
			if e == api.OK && (got.Lo > heights[to].Lo-heights[from].Hi || got.Hi < heights[to].Hi-heights[from].Lo) {
				seen["narrow"]++
			}
		}
		if e == api.OK {
			shown(t, s, from, false, heights[from].Lo)
			shown(t, s, from, true, heights[from].Hi)
		}
	}
	if e == api.OK && slices.ContainsFunc(bends, func(r level.Range) bool { return r != s.Bends }) {
		seen["bent"]++
	}
}

// P9.2 to P9.5, P9.7: all truths, or all heights and all bendings, and all sets of lines are tried.
func TestAsTheModel(t *testing.T) {
	for _, x := range []struct {
		s    scale
		many int
		open solver
	}{{small, 2500, byTruths}, {small, 1000, byNarrowing}, {large, 400, byNarrowing}} {
		seen := map[string]int{}
		eachOf(x.s, x.many, func(r *rand.Rand, s level.Survey) {
			allowsAsTheModel(t, s, seen)
			boundsAsTheModel(t, s, x.open, seen)
			left := modelLeave(s)
			if got, e := level.Leave(s); !slices.Equal(got, left) || e != api.OK {
				t.Fatalf("%v: Leave: %v, %v, not %v", s, got, e, left)
			}
			if len(left) > 1 {
				seen["several"]++
			}
		})
		for _, what := range []string{"nothing", "odd", "narrow", "bent", "several"} {
			if seen[what] < 10 {
				t.Errorf("only so many of each: %v", seen)
			}
		}
	}
}

// P9.6: all truths are tried.
func TestFreeAsTheModel(t *testing.T) {
	seen := map[[2]bool]int{}
	eachOf(small, 8000, func(r *rand.Rand, s level.Survey) {
		if _, e := level.Heights(s); e != api.OK || len(s.Known) < 2 {
			return
		}
		ends := r.Perm(len(s.Known))
		wantSure, wantMay := modelFree(s, ends[0], ends[1])
		if sure, may, e := level.Free(s, ends[0], ends[1]); sure != wantSure || may != wantMay || e != api.OK {
			t.Fatalf("%v: Free from %d to %d: %v, %v, %v, not %v, %v", s, ends[0], ends[1], sure, may, e, wantSure, wantMay)
		}
		seen[[2]bool{wantSure, wantMay}]++
	})
	if seen[[2]bool{true, true}] < 50 || seen[[2]bool{false, true}] < 50 || seen[[2]bool{false, false}] < 50 {
		t.Errorf("only so many of each: %v", seen)
	}
}

// P1: whatever the arguments are, each call returns, and with an error it has no other result.
func TestAnyArguments(t *testing.T) {
	r := rand.New(rand.NewSource(26))
	some := func() int {
		return []int{math.MinInt, -1201, -1, 0, 0, 1, 1, 2, 2, 3, 50, 1000, 1200, math.MaxInt}[r.Intn(14)]
	}
	valid := 0
	for range 4000 {
		s := randomSurvey(r, []scale{small, large}[r.Intn(2)], true)
		in := input{survey: s, line: r.Intn(3), from: r.Intn(2), to: r.Intn(3), at: r.Intn(2), high: r.Intn(2) == 0}
		x := level.Truth{Height: numbers(some(), some(), some())[:r.Intn(4)], Bend: numbers(some(), some(), some())[:r.Intn(4)]}
		switch r.Intn(9) {
		case 0:
			in.line, in.from, in.to, in.at = some(), some(), some(), some()
		case 1:
			in.survey.Bends = span(some(), some())
		case 2:
			in.survey.Known[r.Intn(len(s.Known))] = span(some(), some())
		case 3:
			in.survey.Lines = append(in.survey.Lines, two(some(), some(), some(), some(), some()))
		case 4:
			in.survey.Lines = append(in.survey.Lines, level.Line{From: some(), To: some(), Up: some(), Error: some(), Down: r.Intn(2)})
		case 5:
			in.survey.Land.Stations = append(in.survey.Land.Stations, hill.Station{X: some(), Y: some(), Z: some(), Mirrors: some()})
		case 6:
			in.survey.Land.Ridges = append(in.survey.Land.Ridges, hill.Wall{X1: some(), Y1: some(), X2: some(), Y2: some(), Top: some()})
		case 7:
			in.survey.Known = in.survey.Known[1:]
		}
		results := in.all()
		failed(t, results)
		level.ProveTruth(in.survey, x)
		if !slices.ContainsFunc(errorsOf(results), func(e api.Errno) bool { return e != api.OK && e != api.ErrFail && e != api.ErrFalse }) {
			valid++
		}
	}
	if valid < 200 || valid > 2000 {
		t.Errorf("%d times all arguments are valid", valid)
	}
}

// R4: arguments are not written to, and results are in memory of their own.
func TestMemory(t *testing.T) {
	s := cloneSurvey(example())
	s.Known = append(s.Known, span(7, 7))[:3]
	s.Lines = append(s.Lines, one(0, 2, -20, 5), one(7, 7, 7, 7))[:3]
	s.Land.Stations = append(s.Land.Stations, hill.Station{X: 7})[:3]
	for _, many := range numbers(3, 2) {
		in := input{survey: s, line: 1, from: 0, to: 1, at: 2, high: many == 2}
		in.survey.Lines = in.survey.Lines[:many]
		kept := in
		kept.survey = cloneSurvey(in.survey)
		first, again := in.all(), in.all()
		x := level.Truth{Height: numbers(100, 200, 48), Bend: numbers(4, 4, 4)[:many]}
		level.ProveTruth(in.survey, x)
		if !reflect.DeepEqual(in, kept) || !slices.Equal(x.Height, numbers(100, 200, 48)) || !slices.Equal(x.Bend, numbers(4, 4, 4)[:many]) {
			t.Fatalf("arguments became %v, %v", in, x)
		}
		fill(t, first, again)
		if !reflect.DeepEqual(in, kept) || !reflect.DeepEqual(in.all(), again) {
			t.Error("the arguments, or later results, changed with the results")
		}
	}
	if s.Known[:4][3] != span(7, 7) || s.Lines[:4][3] != one(7, 7, 7, 7) || s.Land.Stations[:4][3].X != 7 {
		t.Errorf("behind the arguments there is %v, %v, %v", s.Known[:4], s.Lines[:4], s.Land.Stations[:4])
	}
}

// fill fills all lists, those behind their ends included, one by one; no other one may change.
func fill(t *testing.T, results, want []any) {
	t.Helper()
	for i, x := range results {
		switch list := x.(type) {
		case []int:
			for j := range list[:cap(list)] {
				list[:cap(list)][j] = 99
			}
		case []level.Range:
			for j := range list[:cap(list)] {
				list[:cap(list)][j] = span(99, 99)
			}
		}
		for j, y := range results {
			if j > i && !reflect.DeepEqual(y, want[j]) {
				t.Errorf("the result %d became %v with %d", j, y, i)
			}
		}
	}
}
