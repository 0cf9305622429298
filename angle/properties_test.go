package angle_test

import (
	"math/rand"
	"slices"
	"testing"

	"glister/angle"
	"glister/api"
)

// leastOf returns the smallest error of a valid net, if it has a truth.
func leastOf(t *testing.T, n angle.Net) (int, bool) {
	t.Helper()
	err, e := angle.Least(n)
	if e != api.OK && (e != api.ErrFail || err != 0) {
		t.Fatalf("%v: Least %v, %v", n, err, e)
	}
	return err, e == api.OK
}

// boundsOf returns the bounds of a net that has a truth within the error.
func boundsOf(t *testing.T, n angle.Net, err int) []angle.Range {
	t.Helper()
	list, e := angle.Bounds(n, err)
	if e != api.OK || len(list) != len(n.Angles) {
		t.Fatalf("%v: Bounds with %d: %v, %v", n, err, list, e)
	}
	return list
}

// controlledOf returns the controlled angles of a net that has a truth within the error.
func controlledOf(t *testing.T, n angle.Net, err int) []int {
	t.Helper()
	list, e := angle.Controlled(n, err)
	if e != api.OK {
		t.Fatalf("%v: Controlled with %d: %v, %v", n, err, list, e)
	}
	return list
}

// leaveOf returns the smallest set of a net that has a truth.
func leaveOf(t *testing.T, n angle.Net, err int) []int {
	t.Helper()
	list, e := angle.Leave(n, err)
	if e != api.OK {
		t.Fatalf("%v: Leave with %d: %v, %v", n, err, list, e)
	}
	return list
}

// isWithin tells whether each number is in its range.
func isWithin(truth []int, ranges []angle.Range) bool {
	for i, number := range truth {
		if number < ranges[i].Lo || number > ranges[i].Hi {
			return false
		}
	}
	return true
}

// P7.7: what was misread is within all that is returned.
func TestWhatWasMisread(t *testing.T) {
	less, narrow := 0, 0
	eachNet(500, func(r *rand.Rand, n angle.Net) {
		truth, ok := randomTruth(r, n)
		if !ok {
			return
		}
		err := r.Intn(r.Intn(api.MaxAngleError+1) + 1)
		n = misread(r, n, truth, err)
		least, ok := leastOf(t, n)
		if !ok || least > err || !angle.ProveTruth(n, err, truth) || len(leaveOf(t, n, err)) > 0 {
			t.Fatalf("%v: Least %v, but %v was read with %d", n, least, truth, err)
		}
		bounds := boundsOf(t, n, err)
		if !isWithin(truth, bounds) {
			t.Fatalf("%v: Bounds with %d: %v, but %v was read", n, err, bounds, truth)
		}
		if least < err {
			less++
		}
		if !slices.Equal(bounds, modelRooms(n, err)) {
			narrow++
		}
	})
	if less < 100 || narrow < 100 {
		t.Errorf("only %d smaller errors, %d nets with narrow bounds", less, narrow)
	}
}

// P7.7, P2: all truths are tried, so long as there are not too many.
func TestInEachTruth(t *testing.T) {
	tried, numbers := 0, 0
	eachOf(small, 250, func(r *rand.Rand, n angle.Net) {
		least, ok := leastOf(t, n)
		err := min(least+r.Intn(4), api.MaxAngleError)
		if !ok {
			return
		}
		bounds := boundsOf(t, n, err)
		reached, many := map[[2]int]bool{}, 0
		eachTruth(n, modelRooms(n, err), func(truth []int) bool {
			if !isWithin(truth, bounds) || !angle.ProveTruth(n, err, truth) {
				t.Fatalf("%v: Bounds with %d: %v, but %v is a truth", n, err, bounds, truth)
			}
			for i, number := range truth {
				reached[[2]int{i, number}] = true
			}
			many++
			return many < 3000
		})
		if many == 3000 {
			return
		}
		tried++
		for i, b := range bounds {
			for number := b.Lo; number <= b.Hi; number++ {
				if !reached[[2]int{i, number}] {
					t.Fatalf("%v: Bounds with %d: %v, but %d is never %d", n, err, bounds, i, number)
				}
				numbers++
			}
		}
	})
	if tried < 100 || numbers < 1500 {
		t.Errorf("only %d nets with %d numbers", tried, numbers)
	}
}

// P7.8
func TestSmallestError(t *testing.T) {
	large := 0
	eachNet(800, func(r *rand.Rand, n angle.Net) {
		least, ok := leastOf(t, n)
		if !ok {
			least = api.MaxAngleError + 1
		}
		for err := range least {
			c, e := angle.Prove(n, err)
			if e != api.OK || !modelProves(n, modelRooms(n, err), c) {
				t.Fatalf("%v: Least %v, but Prove with %d: %v, %v", n, least, err, c, e)
			}
		}
		if !ok {
			return
		}
		if truth, e := angle.Show(n, least); e != api.OK || !isTruth(n, modelRooms(n, least), truth) {
			t.Fatalf("%v: Least %v, but Show %v, %v", n, least, truth, e)
		}
		if least > 3 {
			large++
		}
	})
	if large < 100 {
		t.Errorf("only %d errors that are large", large)
	}
}

// P7.9: each error is tried.
func TestProvedOrShown(t *testing.T) {
	proved, shown := 0, 0
	eachNet(200, func(r *rand.Rand, n angle.Net) {
		for err := range api.MaxAngleError + 1 {
			truth, e := angle.Show(n, err)
			c, f := angle.Prove(n, err)
			switch {
			case e == api.OK && f == api.ErrNone && angle.ProveTruth(n, err, truth) && equalCuts(c, angle.Cut{}):
				shown++
			case e == api.ErrFail && f == api.OK && angle.ProveCut(n, err, c) && len(truth) == 0:
				proved++
			default:
				t.Fatalf("%v with %d: Show %v, %v, Prove %v, %v", n, err, truth, e, c, f)
			}
		}
	})
	if proved < 1000 || shown < 1000 {
		t.Errorf("only %d cuts, %d truths", proved, shown)
	}
}

// P7.9: any truth is tried with any cut.
func TestNeverBoth(t *testing.T) {
	cuts, truths := 0, 0
	eachOf(small, 400, func(r *rand.Rand, n angle.Net) {
		err := someError(r, n)
		proved := false
		eachCut(n, func(c angle.Cut) { proved = proved || angle.ProveCut(n, err, c) })
		if proved {
			cuts++
		}
		many := 0
		eachTruth(n, modelRooms(n, api.MaxAngleError), func(truth []int) bool {
			if angle.ProveTruth(n, err, truth) {
				if proved {
					t.Fatalf("%v: a cut proves with %d, but %v is a truth", n, err, truth)
				}
				truths++
			}
			many++
			return many < 2000
		})
	})
	if cuts < 50 || truths < 1000 {
		t.Errorf("only %d nets with a cut that proves, %d truths", cuts, truths)
	}
}

// P7.10: each error is tried.
func TestMoreError(t *testing.T) {
	wider, fewer, free := 0, 0, 0
	eachNet(60, func(r *rand.Rand, n angle.Net) {
		least, ok := leastOf(t, n)
		if !ok {
			return
		}
		for err := range api.MaxAngleError {
			few, many := leaveOf(t, n, err+1), leaveOf(t, n, err)
			if len(few) > len(many) {
				t.Fatalf("%v: Leave with %d: %v, with more %v", n, err, many, few)
			}
			fewer += len(many) - len(few)
			if err < least {
				continue
			}
			before, after := boundsOf(t, n, err), boundsOf(t, n, err+1)
			for i, b := range before {
				if after[i].Lo > b.Lo || after[i].Hi < b.Hi {
					t.Fatalf("%v: Bounds with %d: %v, with more %v", n, err, before, after)
				}
				wider += b.Lo - after[i].Lo + after[i].Hi - b.Hi
			}
			still, were := controlledOf(t, n, err+1), controlledOf(t, n, err)
			if slices.ContainsFunc(still, func(i int) bool { return !slices.Contains(were, i) }) {
				t.Fatalf("%v: Controlled with %d: %v, with more %v", n, err, were, still)
			}
			free += len(were) - len(still)
		}
	})
	if wider < 1000 || fewer < 50 || free < 20 {
		t.Errorf("with more error only %d numbers, %d fewer readings, %d free angles", wider, fewer, free)
	}
}

// P7.11, P6: any list that is shorter is tried, and any that is as long and before the smallest set.
func TestLeftOut(t *testing.T) {
	long, kept := 0, 0
	eachNet(600, func(r *rand.Rand, n angle.Net) {
		least, ok := leastOf(t, n)
		if !ok {
			return
		}
		err := someError(r, n)
		found := leaveOf(t, n, err)
		if (len(found) == 0) != (err >= least) || !slices.IsSorted(found) {
			t.Fatalf("%v: Least %v, but Leave with %d: %v", n, least, err, found)
		}
		if !byCuts(n, leftOut(n, err, found)) {
			t.Fatalf("%v: Leave with %d: %v, but without them there is no truth", n, err, found)
		}
		eachSet(len(n.Angles), func(list []int) {
			if isBefore(list, found) && byCuts(n, leftOut(n, err, list)) {
				t.Fatalf("%v: Leave with %d: %v, but without %v there is a truth", n, err, found, list)
			}
		})
		if len(found) > 1 {
			long++
		}
		if least > 0 && err == least {
			kept++
		}
	})
	if long < 40 || kept < 40 {
		t.Errorf("only %d sets of several readings, %d smallest errors", long, kept)
	}
}

// P7.12
func TestMoreWeight(t *testing.T) {
	smaller := 0
	eachNet(1500, func(r *rand.Rand, n angle.Net) {
		before, ok := leastOf(t, n)
		i := r.Intn(len(n.Angles))
		more := cloneNet(n)
		more.Angles[i].Weight += r.Intn(api.MaxAngleWeight - n.Angles[i].Weight + 1)
		after, can := leastOf(t, more)
		if can != ok || after > before {
			t.Fatalf("%v: Least %v, with more weight of %d %v", n, before, i, after)
		}
		if after < before {
			smaller++
		}
	})
	if smaller < 30 {
		t.Errorf("only %d errors that are smaller", smaller)
	}
}

// renumbered has for each triangle, and each circle, another number.
func renumbered(n angle.Net, triangles, circles []int) angle.Net {
	n = cloneNet(n)
	for i, a := range n.Angles {
		if a.Triangle != angle.None {
			n.Angles[i].Triangle = triangles[a.Triangle]
		}
		if a.Circle != angle.None {
			n.Angles[i].Circle = circles[a.Circle]
		}
	}
	return n
}

// numbered returns the new numbers, rising.
func numbered(list, numbers []int) []int {
	var others []int
	for _, n := range list {
		others = append(others, numbers[n])
	}
	slices.Sort(others)
	return others
}

// P7.13
func TestAnyNumbers(t *testing.T) {
	moved, cuts := 0, 0
	eachNet(800, func(r *rand.Rand, n angle.Net) {
		triangles, circles := r.Perm(n.Triangles), r.Perm(n.Circles)
		first := input{net: n, err: someError(r, n)}
		second := first
		second.net = renumbered(n, triangles, circles)
		list, other := first.all(), second.all()
		if !slices.Equal(errorsOf(list), errorsOf(other)) {
			t.Fatalf("%v: %v, with other numbers %v", first, list, other)
		}
		for i := range list {
			switch x := list[i].(type) {
			case int:
				if other[i] != any(x) {
					t.Fatalf("%v: %v, with other numbers %v", first, list, other)
				}
			case []int:
				if !slices.Equal(x, other[i].([]int)) {
					t.Fatalf("%v: %v, with other numbers %v", first, list, other)
				}
			case []angle.Range:
				if !slices.Equal(x, other[i].([]angle.Range)) {
					t.Fatalf("%v: %v, with other numbers %v", first, list, other)
				}
			case angle.Cut:
				if want := cut(numbered(x.Triangles, triangles), numbered(x.Circles, circles)...); !equalCuts(other[i].(angle.Cut), want) {
					t.Fatalf("%v: %v, with the numbers %v, %v: %v", first, list, triangles, circles, other)
				}
				cuts += len(x.Triangles) + len(x.Circles)
			}
		}
		if !slices.Equal(n.Angles, second.net.Angles) {
			moved++
		}
	})
	if moved < 200 || cuts < 200 {
		t.Errorf("only %d nets with other numbers, %d sums in cuts", moved, cuts)
	}
}

// P7: the order of angles does not matter, except for indexes.
func TestAnyOrder(t *testing.T) {
	closing := 0
	eachNet(500, func(r *rand.Rand, n angle.Net) {
		other, order := cloneNet(n), r.Perm(len(n.Angles))
		for i, place := range order {
			other.Angles[place] = n.Angles[i]
		}
		least, ok := leastOf(t, n)
		if again, can := leastOf(t, other); again != least || can != ok {
			t.Fatalf("%v: Least %v, in another order %v", n, least, again)
		}
		if !ok {
			return
		}
		err := someError(r, n)
		if few, many := leaveOf(t, n, err), leaveOf(t, other, err); len(few) != len(many) {
			t.Fatalf("%v: Leave with %d: %v, in another order %v", n, err, few, many)
		}
		if err < least {
			return
		}
		closing++
		before, after := boundsOf(t, n, err), boundsOf(t, other, err)
		for i, place := range order {
			if before[i] != after[place] {
				t.Fatalf("%v: Bounds with %d: %v, in the order %v: %v", n, err, before, order, after)
			}
		}
		if list := numbered(controlledOf(t, n, err), order); !slices.Equal(list, controlledOf(t, other, err)) {
			t.Fatalf("%v: Controlled with %d in the order %v: not %v", n, err, order, list)
		}
	})
	if closing < 200 {
		t.Errorf("only %d nets that close", closing)
	}
}

// P7.14: wherever the angle is.
func TestAlone(t *testing.T) {
	large := 0
	eachNet(500, func(r *rand.Rand, n angle.Net) {
		if len(n.Angles) == api.MaxAngleAngles {
			return
		}
		at := r.Intn(len(n.Angles) + 1)
		other := cloneNet(n)
		other.Angles = slices.Insert(other.Angles, at, heavy(none, none, r.Intn(api.MaxAngleRead+1), 1+r.Intn(api.MaxAngleWeight)))
		before, ok := leastOf(t, n)
		least, can := leastOf(t, other)
		if least != before || can != ok {
			t.Fatalf("%v: Least %v; %v: %v", n, before, other, least)
		}
		if !ok {
			return
		}
		err := max(least, someError(r, n))
		bounds := boundsOf(t, other, err)
		if room := modelRooms(other, err)[at]; bounds[at] != room || slices.Contains(controlledOf(t, other, err), at) {
			t.Fatalf("%v: Bounds with %d: %v, but the room of %d is %v", other, err, bounds, at, room)
		}
		if !slices.Equal(slices.Delete(bounds, at, at+1), boundsOf(t, n, err)) {
			t.Fatalf("%v: other bounds with the angle %d", other, at)
		}
		if slices.Contains(leaveOf(t, other, r.Intn(3)), at) {
			t.Fatalf("%v: the angle %d is left out", other, at)
		}
		if least > 0 {
			large++
		}
	})
	if large < 80 {
		t.Errorf("only %d nets with errors", large)
	}
}

// P7.15
func TestClosed(t *testing.T) {
	sums := 0
	eachNet(400, func(r *rand.Rand, n angle.Net) {
		truth, ok := randomTruth(r, n)
		if !ok {
			return
		}
		n = misread(r, n, truth, 0)
		if least, ok := leastOf(t, n); !ok || least != 0 || len(leaveOf(t, n, 0)) > 0 {
			t.Fatalf("%v: Least %v, though it closes", n, least)
		}
		if list, e := angle.Show(n, 0); e != api.OK || !slices.Equal(list, truth) {
			t.Fatalf("%v: Show %v, %v", n, list, e)
		}
		for i, b := range boundsOf(t, n, 0) {
			if b.Lo != truth[i] || b.Hi != truth[i] {
				t.Fatalf("%v: the bounds of %d are %v", n, i, b)
			}
		}
		sums += n.Triangles + n.Circles
	})
	if sums < 300 {
		t.Errorf("only %d sums", sums)
	}
}
