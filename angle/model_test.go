package angle_test

import (
	"math/rand"
	"slices"

	"glister/angle"
	"glister/api"
)

// A second reading of the chapter: all truths of small nets are tried, and all cuts of large ones; so are all numbers of angles, all errors and all sets of readings.

// modelRooms returns the rooms of all angles, number by number.
func modelRooms(n angle.Net, err int) []angle.Range {
	var rooms []angle.Range
	for _, a := range n.Angles {
		room := angle.Range{Lo: a.Read, Hi: a.Read}
		for number := range api.MaxAngleRead + 1 {
			if far := number - a.Read; -err*a.Weight <= far && far <= err*a.Weight {
				room.Lo, room.Hi = min(room.Lo, number), max(room.Hi, number)
			}
		}
		rooms = append(rooms, room)
	}
	return rooms
}

// totals has what the triangles, and the circles, of a net are together, or should be.
type totals struct{ triangles, circles []int }

func modelTotals(n angle.Net, triangle, circle int) totals {
	return totals{slices.Repeat(numbers(triangle), n.Triangles), slices.Repeat(numbers(circle), n.Circles)}
}

func (t totals) add(a angle.Angle, number int) {
	if a.Triangle != angle.None {
		t.triangles[a.Triangle] += number
	}
	if a.Circle != angle.None {
		t.circles[a.Circle] += number
	}
}

// between tells whether none is below the one of the first totals, nor above the one of the second ones.
func (t totals) between(least, most totals) bool {
	for i, total := range t.triangles {
		if total < least.triangles[i] || total > most.triangles[i] {
			return false
		}
	}
	for i, total := range t.circles {
		if total < least.circles[i] || total > most.circles[i] {
			return false
		}
	}
	return true
}

// isTruth tells whether the numbers are a truth in which each angle is in its room.
func isTruth(n angle.Net, rooms []angle.Range, truth []int) bool {
	if len(truth) != len(n.Angles) {
		return false
	}
	sums := modelTotals(n, 0, 0)
	for i, number := range truth {
		if number < rooms[i].Lo || number > rooms[i].Hi {
			return false
		}
		sums.add(n.Angles[i], number)
	}
	due := modelTotals(n, 36, 72)
	return slices.Equal(sums.triangles, due.triangles) && slices.Equal(sums.circles, due.circles)
}

// eachTruth calls the test with each truth in which each angle is in its room, until the test returns false.
func eachTruth(n angle.Net, rooms []angle.Range, test func(truth []int) bool) {
	rest := modelTotals(n, 36, 72)
	// What the angles from each one on are together at least, and at most.
	var least, most []totals
	for at := range len(n.Angles) + 1 {
		least, most = append(least, modelTotals(n, 0, 0)), append(most, modelTotals(n, 0, 0))
		for i := at; i < len(n.Angles); i++ {
			least[at].add(n.Angles[i], rooms[i].Lo)
			most[at].add(n.Angles[i], rooms[i].Hi)
		}
	}
	var try func(truth []int) bool
	try = func(truth []int) bool {
		at := len(truth)
		if !rest.between(least[at], most[at]) {
			return true
		}
		if at == len(n.Angles) {
			return test(slices.Clone(truth))
		}
		for number := rooms[at].Lo; number <= rooms[at].Hi; number++ {
			rest.add(n.Angles[at], -number)
			more := try(append(truth, number))
			rest.add(n.Angles[at], number)
			if !more {
				return false
			}
		}
		return true
	}
	try(nil)
}

// solver tells whether there is a truth in which each angle is in its room.
type solver func(n angle.Net, rooms []angle.Range) bool

// byTruths looks for one.
func byTruths(n angle.Net, rooms []angle.Range) bool {
	found := false
	eachTruth(n, rooms, func([]int) bool {
		found = true
		return false
	})
	return found
}

// byCuts tries all cuts.
func byCuts(n angle.Net, rooms []angle.Range) bool {
	proved := false
	eachCut(n, func(c angle.Cut) { proved = proved || modelProves(n, rooms, c) })
	return !proved
}

// modelProves tells whether a cut of the net proves that there is no truth in which each angle is in its room.
func modelProves(n angle.Net, rooms []angle.Range, c angle.Cut) bool {
	difference := 36*len(c.Triangles) - 72*len(c.Circles)
	least, most := 0, 0
	for i, a := range n.Angles {
		outer, inner := slices.Contains(c.Triangles, a.Triangle), slices.Contains(c.Circles, a.Circle)
		switch {
		case outer && !inner:
			least, most = least+rooms[i].Lo, most+rooms[i].Hi
		case inner && !outer:
			least, most = least-rooms[i].Hi, most-rooms[i].Lo
		}
	}
	return difference < least || difference > most
}

// eachCut calls the test with each cut of the net.
func eachCut(n angle.Net, test func(c angle.Cut)) {
	eachSet(n.Triangles, func(triangles []int) {
		eachSet(n.Circles, func(circles []int) { test(angle.Cut{Triangles: triangles, Circles: circles}) })
	})
}

// eachSet calls the test with each set of indexes below many.
func eachSet(many int, test func(list []int)) {
	for set := range 1 << many {
		var list []int
		for i := range many {
			if set>>i&1 == 1 {
				list = append(list, i)
			}
		}
		test(list)
	}
}

func modelLeast(n angle.Net, closes solver) (int, bool) {
	for err := range api.MaxAngleError + 1 {
		if closes(n, modelRooms(n, err)) {
			return err, true
		}
	}
	return 0, false
}

// modelNumbers returns all numbers that the angle has in some truth in which each other one is in its room.
func modelNumbers(n angle.Net, rooms []angle.Range, i int, closes solver) []int {
	var list []int
	rooms = slices.Clone(rooms)
	for number := range api.MaxAngleRead + 1 {
		rooms[i] = angle.Range{Lo: number, Hi: number}
		if closes(n, rooms) {
			list = append(list, number)
		}
	}
	return list
}

// modelBounds returns the bounds of a net that has a truth within the error.
func modelBounds(n angle.Net, err int, closes solver) []angle.Range {
	var list []angle.Range
	rooms := modelRooms(n, err)
	for i := range n.Angles {
		inRoom := slices.DeleteFunc(modelNumbers(n, rooms, i, closes), func(number int) bool {
			return number < rooms[i].Lo || number > rooms[i].Hi
		})
		list = append(list, angle.Range{Lo: slices.Min(inRoom), Hi: slices.Max(inRoom)})
	}
	return list
}

func modelControlled(n angle.Net, err int, closes solver) []int {
	var list []int
	for i := range n.Angles {
		if len(modelNumbers(n, modelRooms(n, err), i, closes)) <= api.MaxAngleRead {
			list = append(list, i)
		}
	}
	return list
}

// leftOut returns the rooms of all angles with the error, of which those of the list have all numbers.
func leftOut(n angle.Net, err int, list []int) []angle.Range {
	rooms := modelRooms(n, err)
	for _, i := range list {
		rooms[i] = angle.Range{Lo: 0, Hi: api.MaxAngleRead}
	}
	return rooms
}

// isBefore tells whether the list is shorter than the other one, or as long and smaller at the first index at which they differ.
func isBefore(list, other []int) bool {
	return len(list) < len(other) || len(list) == len(other) && slices.Compare(list, other) < 0
}

// modelLeave returns the smallest set of a net that has a truth.
func modelLeave(n angle.Net, err int, closes solver) []int {
	best := upTo(len(n.Angles))
	eachSet(len(n.Angles), func(list []int) {
		if isBefore(list, best) && closes(n, leftOut(n, err, list)) {
			best = list
		}
	})
	return best
}

// upTo lists the numbers below n.
func upTo(n int) []int {
	var list []int
	for i := range n {
		list = append(list, i)
	}
	return list
}

// scale tells how large random nets are.
type scale struct {
	angles, sums int
	closes       solver
}

var (
	large = scale{api.MaxAngleAngles, api.MaxAngleSums, byCuts}
	small = scale{5, 2, byTruths}
)

// members gives each of so many angles one of so many sums, or None; each sum has some if there are enough angles.
func members(r *rand.Rand, angles, sums, each int) []int {
	list := make([]int, angles)
	for i, place := range r.Perm(angles) {
		list[place] = r.Intn(sums+1) - 1
		if i < sums*each {
			list[place] = i % sums
		}
	}
	return list
}

// share returns what an angle has of a sum if all its angles have the same, or another share if it belongs to none.
func share(turn int, list []int, sum, otherwise int) int {
	if sum == angle.None {
		return otherwise
	}
	many := 0
	for _, other := range list {
		if other == sum {
			many++
		}
	}
	return turn / many
}

func randomNet(r *rand.Rand, s scale) angle.Net {
	n := angle.Net{Triangles: min(r.Intn(s.sums+1), r.Intn(s.sums+1)), Circles: min(r.Intn(s.sums+1), r.Intn(s.sums+1))}
	many := 1 + max(r.Intn(s.angles), r.Intn(s.angles))
	triangles, circles := members(r, many, n.Triangles, 1), members(r, many, n.Circles, 2)
	wrong := []int{0, 1, 3, 8, api.MaxAngleRead}[r.Intn(5)]
	for i := range many {
		a := angle.Angle{Triangle: triangles[i], Circle: circles[i], Weight: 1 + r.Intn(api.MaxAngleWeight)}
		other := share(72, circles, a.Circle, r.Intn(api.MaxAngleRead+1))
		third := share(36, triangles, a.Triangle, other)
		a.Read = min(max(0, min(third, other)+r.Intn(2*wrong+1)-wrong), api.MaxAngleRead)
		n.Angles = append(n.Angles, a)
	}
	return n
}

// eachOf calls the test with random nets of the scale, always the same ones.
func eachOf(s scale, many int, test func(r *rand.Rand, n angle.Net)) {
	r := rand.New(rand.NewSource(18))
	for range many {
		test(r, randomNet(r, s))
	}
}

// eachNet calls the test with random nets of any size, always the same ones.
func eachNet(many int, test func(r *rand.Rand, n angle.Net)) {
	r := rand.New(rand.NewSource(19))
	for range many {
		test(r, randomNet(r, []scale{large, large, small}[r.Intn(3)]))
	}
}

// randomTruth returns any truth of the net, if there is one.
func randomTruth(r *rand.Rand, n angle.Net) ([]int, bool) {
	rooms := modelRooms(n, api.MaxAngleError)
	if !byCuts(n, rooms) {
		return nil, false
	}
	var truth []int
	for i := range n.Angles {
		list := modelNumbers(n, rooms, i, byCuts)
		number := list[r.Intn(len(list))]
		rooms[i] = angle.Range{Lo: number, Hi: number}
		truth = append(truth, number)
	}
	return truth, true
}

// misread reads the truth with at most the error.
func misread(r *rand.Rand, n angle.Net, truth []int, err int) angle.Net {
	n = cloneNet(n)
	for i, number := range truth {
		far := err * n.Angles[i].Weight
		n.Angles[i].Read = min(max(0, number+r.Intn(2*far+1)-far), api.MaxAngleRead)
	}
	return n
}

// cloneNet copies a net with its list.
func cloneNet(n angle.Net) angle.Net {
	n.Angles = slices.Clone(n.Angles)
	return n
}
