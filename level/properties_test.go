package level_test

import (
	"math/rand"
	"slices"
	"testing"

	"glister/api"
	"glister/hill"
	"glister/level"
)

// bounds has what Heights and Bendings return.
type bounds struct{ heights, bends []level.Range }

// boundsOf returns the bounds, if there is a truth.
func boundsOf(t *testing.T, s level.Survey) (bounds, bool) {
	t.Helper()
	heights, e := level.Heights(s)
	bends, f := level.Bendings(s)
	if e != f || e != api.ErrFail && (e != api.OK || len(heights) != len(s.Known) || len(bends) != len(s.Lines)) {
		t.Fatalf("%v: Heights, Bendings: %v, %v; %v, %v", s, heights, e, bends, f)
	}
	return bounds{heights, bends}, e == api.OK
}

func (b bounds) equal(other bounds) bool {
	return slices.Equal(b.heights, other.heights) && slices.Equal(b.bends, other.bends)
}

// differenceOf returns the bounds of a difference, if there is a truth.
func differenceOf(t *testing.T, s level.Survey, from, to int) level.Range {
	t.Helper()
	r, e := level.Difference(s, from, to)
	if e != api.OK || r.Lo > r.Hi {
		t.Fatalf("%v: Difference from %d to %d: %v, %v", s, from, to, r, e)
	}
	return r
}

// differences lists the bounds of all of them.
func differences(t *testing.T, s level.Survey) []level.Range {
	t.Helper()
	var list []level.Range
	eachPair(s, func(from, to int) { list = append(list, differenceOf(t, s, from, to)) })
	return list
}

// eachPair calls the test with each two different stations.
func eachPair(s level.Survey, test func(from, to int)) {
	for from := range s.Known {
		for to := range s.Known {
			if from != to {
				test(from, to)
			}
		}
	}
}

// leaveOf returns the smallest set.
func leaveOf(t *testing.T, s level.Survey) []int {
	t.Helper()
	list, e := level.Leave(s)
	if e != api.OK {
		t.Fatalf("%v: Leave: %v, %v", s, list, e)
	}
	return list
}

func has(r level.Range, n int) bool { return r.Lo <= n && n <= r.Hi }

// within tells whether each range is in the other one at its index.
func within(list, others []level.Range) bool {
	for i, r := range list {
		if !has(others[i], r.Lo) || !has(others[i], r.Hi) {
			return false
		}
	}
	return true
}

// truthAt has these heights, and for each line some bending that fits, if there is one.
func truthAt(r *rand.Rand, s level.Survey, heights []int) level.Truth {
	x := level.Truth{Height: heights}
	for _, l := range s.Lines {
		bend := -1
		if fit := bends(s, l, heights[l.To]-heights[l.From]); len(fit) > 0 {
			bend = fit[r.Intn(len(fit))]
		}
		x.Bend = append(x.Bend, bend)
	}
	return x
}

// randomTruth is any one of a survey that has a truth; some are at ends.
func randomTruth(r *rand.Rand, s level.Survey, allows []level.Range) level.Truth {
	fixed := cloneSurvey(s)
	for _, station := range r.Perm(len(s.Known)) {
		can := narrowed(fixed, allows)[station]
		height := []int{can.Lo, can.Lo + r.Intn(can.Hi-can.Lo+1), can.Hi}[r.Intn(3)]
		fixed.Known[station] = span(height, height)
	}
	var heights []int
	for _, known := range fixed.Known {
		heights = append(heights, known.Lo)
	}
	return truthAt(r, s, heights)
}

// eachTrue calls the test with random surveys that have a truth.
func eachTrue(t *testing.T, many int, test func(r *rand.Rand, s level.Survey, b bounds)) {
	t.Helper()
	eachSurvey(many, func(r *rand.Rand, s level.Survey) {
		if b, ok := boundsOf(t, s); ok {
			test(r, s, b)
		}
	})
}

// P9.8, P2
func TestInEachTruth(t *testing.T) {
	truths, others := 0, 0
	eachTrue(t, 400, func(r *rand.Rand, s level.Survey, b bounds) {
		allows := allAllow(s)
		for range 10 {
			x := randomTruth(r, s, allows)
			if !level.ProveTruth(s, x) {
				t.Fatalf("%v: ProveTruth of %v", s, x)
			}
			truths++
			for station, height := range x.Height {
				if !has(b.heights[station], height) {
					t.Fatalf("%v: Heights: %v, but in %v", s, b.heights, x)
				}
			}
			for i, l := range s.Lines {
				got, e := level.Allows(s, i)
				if e != api.OK || !has(got, x.Height[l.To]-x.Height[l.From]) || !has(b.bends[i], x.Bend[i]) {
					t.Fatalf("%v: Allows of %d: %v, %v; Bendings: %v, but in %v", s, i, got, e, b.bends, x)
				}
			}
			eachPair(s, func(from, to int) {
				if got := differenceOf(t, s, from, to); !has(got, x.Height[to]-x.Height[from]) {
					t.Fatalf("%v: Difference from %d to %d: %v, but in %v", s, from, to, got, x)
				}
			})
			others += changeTruth(t, r, s, x)
		}
	})
	if truths < 2000 || others < 500 {
		t.Errorf("only %d truths, and %d lists that are none", truths, others)
	}
}

// changeTruth changes a number of the truth, and checks what ProveTruth reports then; it returns 1 if it is no truth any more.
func changeTruth(t *testing.T, r *rand.Rand, s level.Survey, x level.Truth) int {
	t.Helper()
	if i, by := r.Intn(len(x.Height)+len(x.Bend)), 1-2*r.Intn(2); i < len(x.Height) {
		x.Height[i] += by
	} else {
		x.Bend[i-len(x.Height)] += by
	}
	want := true
	for station, height := range x.Height {
		want = want && has(s.Known[station], height)
	}
	for i, l := range s.Lines {
		want = want && has(s.Bends, x.Bend[i]) && fits(l, x.Height[l.To]-x.Height[l.From], x.Bend[i])
	}
	if level.ProveTruth(s, x) != want {
		t.Fatalf("%v: ProveTruth of %v: %v", s, x, !want)
	}
	if want {
		return 0
	}
	return 1
}

// P9.9, P2: both ends are reached, and with any number beyond an end there is no truth.
func TestTheEnds(t *testing.T) {
	beyond := 0
	eachTrue(t, 500, func(r *rand.Rand, s level.Survey, b bounds) {
		var low, high []int
		for _, x := range b.heights {
			low, high = append(low, x.Lo), append(high, x.Hi)
		}
		for _, heights := range [][]int{low, high} {
			if x := truthAt(r, s, heights); !level.ProveTruth(s, x) {
				t.Fatalf("%v: %v should be a truth", s, x)
			}
		}
		for station, x := range b.heights {
			shown(t, s, station, false, x.Lo)
			shown(t, s, station, true, x.Hi)
			other := cloneSurvey(s)
			for _, known := range ranges(s.Known[station].Lo, x.Lo-1, x.Hi+1, s.Known[station].Hi) {
				if other.Known[station] = known; known.Lo > known.Hi {
					continue
				}
				beyond++
				if _, ok := boundsOf(t, other); ok {
					t.Fatalf("%v: Heights: %v, but there is a truth with %v of %d", s, b.heights, known, station)
				}
			}
		}
	})
	if beyond < 200 {
		t.Errorf("only %d numbers beyond the ends", beyond)
	}
}

// P9.10
func TestMoreReadings(t *testing.T) {
	more, narrower, smaller, nothing := 0, 0, 0, 0
	eachSurvey(600, func(r *rand.Rand, s level.Survey) {
		if len(s.Known) < 2 || len(s.Lines) == api.MaxLevelLines {
			return
		}
		var heights []int
		for _, known := range s.Known {
			heights = append(heights, known.Lo+r.Intn(known.Hi-known.Lo+1))
		}
		longer := cloneSurvey(s)
		longer.Lines = append(longer.Lines, aLine(r, s, heights, 5))
		before, after := leaveOf(t, s), leaveOf(t, longer)
		if len(after) < len(before) {
			t.Fatalf("%v: Leave: %v, without the last line %v", longer, after, before)
		}
		more += len(after) - len(before)
		if b, ok := boundsOf(t, longer); ok {
			wide, can := boundsOf(t, s)
			if !can || !within(b.heights, wide.heights) || !within(b.bends[:len(s.Lines)], wide.bends) || !within(differences(t, longer), differences(t, s)) {
				t.Fatalf("%v: bounds %v, without the last line %v", longer, b, wide)
			}
			if !slices.Equal(b.heights, wide.heights) {
				narrower++
			}
		}
		last := len(s.Lines)
		longer.Lines[last].Both, longer.Lines[last].Down = false, 0
		wide, e := level.Allows(longer, last)
		longer.Lines[last].Both, longer.Lines[last].Down = true, max(-api.MaxLevelRead, few(r, 30)-longer.Lines[last].Up)
		got, f := level.Allows(longer, last)
		switch {
		case e != api.OK || f == api.OK && !within([]level.Range{got}, []level.Range{wide}):
			t.Fatalf("%v: Allows of %d: %v, %v, with one end %v, %v", longer, last, got, f, wide, e)
		case f == api.ErrFalse:
			nothing++
		case got != wide:
			smaller++
		}
	})
	if more < 30 || narrower < 30 || smaller < 30 || nothing < 30 {
		t.Errorf("only %d times more is left out, %d times bounds are narrower; a line allows %d times less, %d times nothing", more, narrower, smaller, nothing)
	}
}

// P9.11
func TestBothEnds(t *testing.T) {
	same := 0
	eachSurvey(600, func(r *rand.Rand, s level.Survey) {
		for i := range s.Lines {
			s.Lines[i].Error *= r.Intn(2)
		}
		changes := cloneSurvey(s)
		changes.Bends = around(r, s.Bends.Lo, 20, api.MaxLevelBend)
		for _, other := range []level.Survey{s, changes} {
			if _, ok := boundsOf(t, other); !ok {
				continue
			}
			for i, l := range other.Lines {
				if !l.Both || l.Error > 0 {
					continue
				}
				same++
				got, allowed := differenceOf(t, other, l.From, l.To), level.Range{}
				allowed, _ = level.Allows(other, i)
				if 2*got.Lo != l.Up-l.Down || got.Hi != got.Lo || allowed != got {
					t.Fatalf("%v: Difference, Allows of the line %d: %v; %v", other, i, got, allowed)
				}
			}
		}
	})
	if same < 200 {
		t.Errorf("only %d lines that are read at both ends", same)
	}
}

// P9.12
func TestTurned(t *testing.T) {
	turns := 0
	eachTrue(t, 600, func(r *rand.Rand, s level.Survey, b bounds) {
		turned := cloneSurvey(s)
		for i, l := range s.Lines {
			if l.Both && r.Intn(2) == 0 {
				turned.Lines[i] = two(l.To, l.From, l.Down, l.Up, l.Error)
				turns++
			}
		}
		got, ok := boundsOf(t, turned)
		if !ok || !got.equal(b) || !slices.Equal(differences(t, turned), differences(t, s)) {
			t.Fatalf("%v: bounds %v, with turned lines %v", s, b, got)
		}
		eachPair(s, func(from, to int) {
			if there, back := differenceOf(t, s, from, to), differenceOf(t, turned, to, from); back != span(-there.Hi, -there.Lo) {
				t.Fatalf("%v: Difference from %d to %d: %v, back: %v", s, from, to, there, back)
			}
		})
	})
	if turns < 300 {
		t.Errorf("only %d lines turned", turns)
	}
}

// P9.13, P3
func TestSight(t *testing.T) {
	seen := map[[2]bool]int{}
	eachTrue(t, 800, func(r *rand.Rand, s level.Survey, b bounds) {
		allows := allAllow(s)
		var truths []level.Truth
		for range 5 {
			truths = append(truths, randomTruth(r, s, allows))
		}
		eachPair(s, func(from, to int) {
			sure, may, e := level.Free(s, from, to)
			again, back, f := level.Free(s, to, from)
			if e != api.OK || f != api.OK || again != sure || back != may || sure && !may {
				t.Fatalf("%v: Free from %d to %d: %v, %v, %v, back: %v, %v, %v", s, from, to, sure, may, e, again, back, f)
			}
			seen[[2]bool{sure, may}]++
			for _, x := range truths {
				if free := sees(s.Land, x.Height, from, to); free && !may || !free && sure {
					t.Fatalf("%v: Free from %d to %d: %v, %v, but %v in %v", s, from, to, sure, may, free, x)
				}
			}
		})
	})
	if seen[[2]bool{true, true}] < 100 || seen[[2]bool{false, true}] < 100 || seen[[2]bool{false, false}] < 100 {
		t.Errorf("only so many of each: %v", seen)
	}
}

// P9.14, P6: any set of lines is tried.
func TestLeftOut(t *testing.T) {
	sizes := map[int]int{}
	eachSurvey(600, func(r *rand.Rand, s level.Survey) {
		left := leaveOf(t, s)
		sizes[len(left)]++
		if _, ok := boundsOf(t, without(s, left)); !ok {
			t.Fatalf("%v: Leave: %v, but there is no truth without it", s, left)
		}
		eachSet(len(s.Lines), func(list []int) {
			if !isBefore(list, left) {
				return
			}
			if _, e := level.Heights(without(s, list)); e != api.ErrFail {
				t.Fatalf("%v: Leave: %v, but without %v: %v", s, left, list, e)
			}
		})
	})
	if sizes[0] < 100 || sizes[1] < 50 || sizes[2] < 20 {
		t.Errorf("only so many sets of each size: %v", sizes)
	}
}

// P9.15
func TestRaised(t *testing.T) {
	moved := 0
	eachTrue(t, 600, func(r *rand.Rand, s level.Survey, b bounds) {
		room := api.MaxHillHeight
		for _, known := range s.Known {
			room = min(room, api.MaxHillHeight-known.Hi)
		}
		by := r.Intn(room + 1)
		other := cloneSurvey(s)
		for i := range other.Known {
			other.Known[i].Lo += by
			other.Known[i].Hi += by
		}
		got, ok := boundsOf(t, other)
		for i := range got.heights {
			got.heights[i].Lo -= by
			got.heights[i].Hi -= by
		}
		if !ok || !got.equal(b) || !slices.Equal(differences(t, other), differences(t, s)) {
			t.Fatalf("%v: bounds %v, raised by %d %v", s, b, by, got)
		}
		moved += min(1, by)
	})
	if moved < 200 {
		t.Errorf("only %d surveys raised", moved)
	}
}

// P7: the order of lines and ridges does not matter, except for indexes.
func TestAnyOrder(t *testing.T) {
	odd, agree := 0, 0
	eachSurvey(500, func(r *rand.Rand, s level.Survey) {
		other := cloneSurvey(s)
		places := r.Perm(len(s.Lines))
		for i, place := range places {
			other.Lines[place] = s.Lines[i]
		}
		r.Shuffle(len(other.Land.Ridges), func(i, j int) {
			ridges := other.Land.Ridges
			ridges[i], ridges[j] = ridges[j], ridges[i]
		})
		if before, after := leaveOf(t, s), leaveOf(t, other); len(before) != len(after) {
			t.Fatalf("%v: Leave: %v, in another order %v", s, before, after)
		}
		b, ok := boundsOf(t, s)
		got, can := boundsOf(t, other)
		if ok != can || !slices.Equal(b.heights, got.heights) {
			t.Fatalf("%v: Heights: %v, %v, in another order %v, %v", s, b, ok, got, can)
		}
		if !ok {
			odd++
			return
		}
		agree++
		for i, place := range places {
			if b.bends[i] != got.bends[place] {
				t.Fatalf("%v: Bendings: %v, in another order %v", s, b.bends, got.bends)
			}
		}
		eachPair(s, func(from, to int) {
			sure, may, _ := level.Free(s, from, to)
			if again, can, _ := level.Free(other, from, to); again != sure || can != may || differenceOf(t, s, from, to) != differenceOf(t, other, from, to) {
				t.Fatalf("%v: Free from %d to %d: %v, %v, in another order %v, %v", s, from, to, sure, may, again, can)
			}
		})
	})
	if odd < 50 || agree < 50 {
		t.Errorf("%d without a truth, %d with one", odd, agree)
	}
}

// The heights, the cases and the sun of the land are left out everywhere.
func TestLeftOutOfTheLand(t *testing.T) {
	eachTrue(t, 300, func(r *rand.Rand, s level.Survey, b bounds) {
		other := cloneSurvey(s)
		for i := range other.Land.Stations {
			other.Land.Stations[i].Z, other.Land.Stations[i].Mirrors = r.Intn(api.MaxHillHeight+1), 1+r.Intn(2)
		}
		cloud := hill.Cloud{Wall: hill.Wall{X1: r.Intn(90), X2: 100 - r.Intn(90), Y2: 100, Top: 1000}}
		other.Land.Cases = append([][]hill.Cloud{{cloud}}, other.Land.Cases...)
		other.Land.Sun = []hill.Sun{{East: 1, North: r.Intn(3) - 1, Up: r.Intn(2)}}
		if got, ok := boundsOf(t, other); !ok || !got.equal(b) || !slices.Equal(leaveOf(t, other), leaveOf(t, s)) {
			t.Fatalf("%v: bounds %v, in another land %v", s, b, got)
		}
		eachPair(s, func(from, to int) {
			sure, may, _ := level.Free(s, from, to)
			if again, can, e := level.Free(other, from, to); again != sure || can != may || e != api.OK {
				t.Fatalf("%v: Free from %d to %d: %v, %v, in another land %v, %v", s, from, to, sure, may, again, can)
			}
		})
	})
}
