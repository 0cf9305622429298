package angle_test

import (
	"math"
	"math/rand"
	"reflect"
	"slices"
	"testing"

	"glister/angle"
	"glister/api"
)

const none = angle.None

func numbers(list ...int) []int { return list }

// in is an angle with the weight 1.
func in(triangle, circle, read int) angle.Angle { return heavy(triangle, circle, read, 1) }

func heavy(triangle, circle, read, weight int) angle.Angle {
	return angle.Angle{Triangle: triangle, Circle: circle, Read: read, Weight: weight}
}

func net(triangles, circles int, angles ...angle.Angle) angle.Net {
	return angle.Net{Angles: angles, Triangles: triangles, Circles: circles}
}

func cut(triangles []int, circles ...int) angle.Cut {
	return angle.Cut{Triangles: triangles, Circles: circles}
}

func ranges(ends ...int) []angle.Range {
	var list []angle.Range
	for i := 0; i < len(ends); i += 2 {
		list = append(list, angle.Range{Lo: ends[i], Hi: ends[i+1]})
	}
	return list
}

// example is the net of the chapter.
func example() angle.Net {
	return net(2, 1, in(0, none, 10), in(0, none, 12), in(0, 0, 17), in(1, 0, 18), in(none, 0, 36), in(1, none, 20))
}

// changed is the example after a change.
func changed(change func(n *angle.Net)) angle.Net {
	n := example()
	change(&n)
	return n
}

// triangle is a net of one triangle, and circle one of one circle, with angles of these readings.
func triangle(read ...int) angle.Net {
	n := net(1, 0)
	for _, number := range read {
		n.Angles = append(n.Angles, in(0, none, number))
	}
	return n
}

func circle(read ...int) angle.Net {
	n := net(0, 1)
	for _, number := range read {
		n.Angles = append(n.Angles, in(none, 0, number))
	}
	return n
}

// weighted has other weights for the first angles.
func weighted(n angle.Net, weights ...int) angle.Net {
	n = cloneNet(n)
	for i, w := range weights {
		n.Angles[i].Weight = w
	}
	return n
}

// wrong has as many readings as a net can have, of which none can be kept with the error 0.
func wrong() angle.Net {
	n := net(2, 5, in(0, none, 0), in(1, none, 0))
	for i := range 10 {
		n.Angles = append(n.Angles, in(none, i%5, 0))
	}
	return n
}

// endless has a circle in which nothing is left for the last angle, which was read as 40.
func endless() angle.Net { return net(2, 1, in(0, 0, 36), in(1, 0, 36), in(none, 0, 40)) }

// impossible are nets without a truth.
func impossible() []angle.Net {
	return []angle.Net{
		net(1, 0, in(none, none, 36)), net(0, 1, in(none, none, 36)), net(2, 0, in(1, none, 36)), net(0, 2, in(none, 0, 36), in(none, 0, 36)),
		circle(40), circle(0), net(1, 1, in(0, 0, 18), in(0, 0, 18)), net(1, 1, in(0, 0, 12), in(0, 0, 12), in(0, 0, 12), heavy(none, none, 5, 3)),
		net(1, 2, in(0, 0, 18), in(none, 0, 40), in(0, 1, 18), in(none, 1, 40)),
		net(3, 1, in(0, 0, 36), in(1, 0, 36), in(2, 0, 36)),
	}
}

// input has the arguments of all calls.
type input struct {
	net   angle.Net
	err   int
	truth []int
	cut   angle.Cut
}

// all has the results of each call that has an error.
func (in input) all() []any {
	e0 := angle.CheckNet(in.net)
	least, e1 := angle.Least(in.net)
	bounds, e2 := angle.Bounds(in.net, in.err)
	truth, e3 := angle.Show(in.net, in.err)
	controlled, e4 := angle.Controlled(in.net, in.err)
	left, e5 := angle.Leave(in.net, in.err)
	c, e6 := angle.Prove(in.net, in.err)
	return []any{e0, least, e1, bounds, e2, truth, e3, controlled, e4, left, e5, c, e6}
}

// errorsOf picks the errors from the results of all: CheckNet, Least, Bounds, Show, Controlled, Leave, Prove.
func errorsOf(results []any) []api.Errno {
	var list []api.Errno
	for _, x := range results {
		if e, ok := x.(api.Errno); ok {
			list = append(list, e)
		}
	}
	return list
}

// failed checks that a call with an error has no other result.
func failed(t *testing.T, results []any) {
	t.Helper()
	for i, x := range results {
		if e, ok := x.(api.Errno); ok && e != api.OK && i > 0 && !isZero(results[i-1]) {
			t.Errorf("%v with %v in %v", results[i-1], e, results)
		}
	}
}

func isZero(x any) bool {
	switch x := x.(type) {
	case int:
		return x == 0
	case angle.Cut:
		return len(x.Triangles)+len(x.Circles) == 0
	}
	return reflect.ValueOf(x).Len() == 0
}

// P7.1: what a net can have.
func TestCheckNet(t *testing.T) {
	one := func(a angle.Angle) angle.Net { return changed(func(n *angle.Net) { n.Angles[3] = a }) }
	many := func(many int) angle.Net {
		return changed(func(n *angle.Net) { n.Angles = slices.Repeat([]angle.Angle{in(0, 0, 1)}, many) })
	}
	sums := func(triangles, circles int) angle.Net { return net(triangles, circles, in(none, none, 1)) }
	for _, x := range []struct {
		what string
		n    angle.Net
		want api.Errno
	}{
		{"the example", example(), api.OK}, {"a full net", wrong(), api.OK}, {"nothing", angle.Net{}, api.ErrArg},
		{"no angles", many(0), api.ErrArg}, {"one angle", many(1), api.OK}, {"12 angles", many(12), api.OK}, {"13 angles", many(13), api.ErrLimit}, {"13 wrong angles", net(-1, -1, make([]angle.Angle, 13)...), api.ErrLimit},
		{"no sums", sums(0, 0), api.OK}, {"five triangles", sums(5, 0), api.OK}, {"six triangles", sums(6, 0), api.ErrLimit}, {"triangles below 0", sums(-1, 0), api.ErrArg}, {"five circles", sums(0, 5), api.OK}, {"six circles", sums(0, 6), api.ErrLimit}, {"circles below 0", sums(0, -1), api.ErrArg}, {"five of both", sums(5, 5), api.OK},
		{"six triangles and a wrong number of circles", sums(6, -1), api.ErrLimit}, {"six circles and a wrong number of triangles", sums(-1, 6), api.ErrLimit}, {"the greatest numbers of sums", sums(math.MaxInt, math.MaxInt), api.ErrLimit}, {"the smallest numbers of sums", sums(math.MinInt, math.MinInt), api.ErrArg}, {"the smallest number of triangles", sums(math.MinInt, 0), api.ErrArg}, {"the smallest number of circles", sums(0, math.MinInt), api.ErrArg}, {"six triangles and no angles", net(6, 0), api.ErrLimit}, {"six circles and no angles", net(0, 6), api.ErrLimit},
		{"the last triangle", one(in(1, 0, 18)), api.OK}, {"no triangle", one(in(none, 0, 18)), api.OK}, {"a triangle too many", one(in(2, 0, 18)), api.ErrArg}, {"a triangle below None", one(in(-2, 0, 18)), api.ErrArg}, {"no circle", one(in(0, none, 18)), api.OK}, {"a circle too many", one(in(0, 1, 18)), api.ErrArg}, {"a circle below None", one(in(0, -2, 18)), api.ErrArg}, {"neither", one(in(none, none, 18)), api.OK},
		{"a triangle of none", net(0, 1, in(0, 0, 18)), api.ErrArg}, {"a circle of none", net(1, 0, in(0, 0, 18)), api.ErrArg},
		{"read as 0", one(in(1, 0, 0)), api.OK}, {"read below 0", one(in(1, 0, -1)), api.ErrArg}, {"read as 40", one(in(1, 0, 40)), api.OK}, {"read as 41", one(in(1, 0, 41)), api.ErrArg},
		{"no weight", one(heavy(1, 0, 18, 0)), api.ErrArg}, {"the weight 3", one(heavy(1, 0, 18, 3)), api.OK}, {"the weight 4", one(heavy(1, 0, 18, 4)), api.ErrArg}, {"a weight below 0", one(heavy(1, 0, 18, -1)), api.ErrArg},
		{"the greatest triangle", one(in(math.MaxInt, 0, 18)), api.ErrArg}, {"the smallest circle", one(in(0, math.MinInt, 18)), api.ErrArg}, {"the greatest reading", one(in(1, 0, math.MaxInt)), api.ErrArg}, {"the smallest reading", one(in(1, 0, math.MinInt)), api.ErrArg}, {"the greatest weight", one(heavy(1, 0, 18, math.MaxInt)), api.ErrArg}, {"the smallest weight", one(heavy(1, 0, 18, math.MinInt)), api.ErrArg},
	} {
		if e := angle.CheckNet(x.n); e != x.want {
			t.Errorf("CheckNet of %s: %v, not %v", x.what, e, x.want)
		}
	}
	for _, n := range impossible() {
		if e := angle.CheckNet(n); e != api.OK {
			t.Errorf("CheckNet of %v: %v", n, e)
		}
	}
}

// P7.1
func TestProveTruth(t *testing.T) {
	right := numbers(8, 10, 18, 16, 38, 20)
	heavier := weighted(triangle(10, 12, 17), 3, 2, 1)
	for _, x := range []struct {
		what  string
		n     angle.Net
		err   int
		truth []int
		want  bool
	}{
		{"a truth", example(), 2, right, true}, {"another one", example(), 2, numbers(9, 11, 16, 18, 38, 18), true}, {"more error", example(), 40, right, true}, {"less error", example(), 1, right, false}, {"an error below 0", example(), -1, right, false}, {"an error that is too large", example(), 41, right, false}, {"the greatest error", example(), math.MaxInt, right, false}, {"the smallest error", example(), math.MinInt, right, false},
		{"a number too few", example(), 40, right[:5], false}, {"a number too many", example(), 40, append(slices.Clone(right), 0), false}, {"no numbers", example(), 40, nil, false},
		{"a triangle that does not close", example(), 2, numbers(9, 10, 18, 16, 38, 20), false}, {"another triangle that does not close", example(), 2, numbers(8, 10, 18, 16, 38, 19), false}, {"a circle that does not close", example(), 2, numbers(8, 10, 18, 16, 37, 20), false}, {"a triangle of 35", triangle(36), 40, numbers(35), false}, {"a triangle of 36", triangle(36), 0, numbers(36), true}, {"a circle of 36", circle(18, 18), 40, numbers(18, 18), false}, {"a circle of 72", circle(32, 40), 0, numbers(32, 40), true},
		{"a number above 40", circle(31, 40), 40, numbers(31, 41), false}, {"a number below 0", triangle(20, 20, 0), 40, numbers(20, 17, -1), false}, {"numbers that are too large", net(0, 0, in(none, none, 40)), 40, numbers(math.MaxInt), false}, {"numbers that are too small", triangle(36, 36), 40, numbers(math.MinInt, math.MinInt+36), false}, {"0 and 40", net(0, 0, in(none, none, 40), in(none, none, 0)), 40, numbers(0, 40), true},
		{"ends by weight", heavier, 1, numbers(7, 11, 18), true}, {"other ends by weight", heavier, 1, numbers(8, 10, 18), true}, {"beyond an end", heavier, 1, numbers(6, 12, 18), false}, {"beyond another end", heavier, 1, numbers(10, 9, 17), false}, {"beyond a light end", heavier, 1, numbers(9, 12, 15), false}, {"above an end", heavier, 1, numbers(10, 15, 11), false},
		{"alone", net(0, 0, in(none, none, 7)), 2, numbers(9), true}, {"alone, and too far", net(0, 0, in(none, none, 7)), 2, numbers(10), false},
		{"a triangle without angles", net(2, 0, in(0, none, 36)), 40, numbers(36), false}, {"a circle without angles", net(1, 1, in(0, none, 36)), 40, numbers(36), false},
		{"a wrong net", changed(func(n *angle.Net) { n.Angles[5].Weight = 0 }), 2, right, false}, {"too many circles", changed(func(n *angle.Net) { n.Circles = 6 }), 2, right, false}, {"no net", angle.Net{}, 2, nil, false},
	} {
		if ok := angle.ProveTruth(x.n, x.err, x.truth); ok != x.want {
			t.Errorf("ProveTruth with %s: %v", x.what, ok)
		}
	}
}

// P7.2
func TestLeast(t *testing.T) {
	for _, x := range []struct {
		what string
		n    angle.Net
		want int
	}{
		{"the example", example(), 2}, {"10, 12 and 17", triangle(10, 12, 17), 1}, {"10, 12 and 14", triangle(10, 12, 14), 0}, {"four too many", triangle(10, 13, 17), 2}, {"three too few", triangle(10, 12, 11), 1}, {"by weight", weighted(triangle(11, 15, 19), 3), 2}, {"by more weight", weighted(triangle(11, 15, 19), 3, 3, 3), 1}, {"by less weight", triangle(11, 15, 19), 3},
		{"only one that can be less", triangle(0, 0, 40), 4}, {"only two that can be more", circle(40, 26, 0), 3}, {"one angle", triangle(0), 36}, {"one angle that is too large", triangle(40), 4}, {"one heavy angle", weighted(triangle(0), 3), 12}, {"one of weight 2", weighted(triangle(1), 2), 18},
		{"two angles of a circle", circle(40, 40), 4}, {"two far ones", circle(0, 40), 32}, {"two far ones by weight", weighted(circle(0, 40), 3), 11}, {"two at 0", circle(0, 0), 36},
		{"two angles of one triangle and one circle", net(1, 1, in(0, 0, 18), in(0, 0, 18), in(none, 0, 36)), 0}, {"three such angles", net(1, 1, in(0, 0, 18), in(0, 0, 18), in(0, 0, 4), in(none, 0, 30)), 6},
		{"alone", net(0, 0, in(none, none, 7)), 0}, {"the greatest error", endless(), 40}, {"the greatest error by weight", weighted(endless(), 1, 1, 3), 14}, {"all readings wrong", wrong(), 36},
	} {
		if err, e := angle.Least(x.n); err != x.want || e != api.OK {
			t.Errorf("Least of %s: %v, %v, not %v", x.what, err, e, x.want)
		}
	}
	for _, n := range impossible() {
		if err, e := angle.Least(n); err != 0 || e != api.ErrFail {
			t.Errorf("Least of %v: %v, %v", n, err, e)
		}
	}
}

// P7.3
func TestBounds(t *testing.T) {
	for _, x := range []struct {
		n    angle.Net
		err  int
		want []angle.Range
	}{
		{example(), 2, ranges(8, 10, 10, 12, 16, 18, 16, 18, 36, 38, 18, 20)},
		{triangle(10, 12, 17), 1, ranges(9, 9, 11, 11, 16, 16)}, {triangle(10, 12, 17), 2, ranges(8, 11, 10, 13, 15, 18)}, {weighted(triangle(10, 12, 17), 3), 1, ranges(7, 9, 11, 13, 16, 18)}, {triangle(10, 12, 17), 40, ranges(0, 36, 0, 36, 0, 36)},
		{triangle(40), 40, ranges(36, 36)}, {triangle(0, 0, 40), 4, ranges(0, 0, 0, 0, 36, 36)}, {triangle(0, 0, 40), 6, ranges(0, 2, 0, 2, 34, 36)},
		{circle(36, 36), 0, ranges(36, 36, 36, 36)}, {circle(36, 36), 3, ranges(33, 39, 33, 39)}, {circle(36, 36), 40, ranges(32, 40, 32, 40)}, {circle(1, 36, 36), 40, ranges(0, 40, 0, 40, 0, 40)}, {circle(39, 20, 13), 2, ranges(37, 40, 18, 22, 11, 15)},
		{net(0, 0, in(none, none, 17), in(none, none, 3), heavy(none, none, 33, 2)), 5, ranges(12, 22, 0, 8, 23, 40)}, {net(1, 0, in(none, none, 17), in(0, none, 36)), 0, ranges(17, 17, 36, 36)},
		{endless(), 40, ranges(36, 36, 36, 36, 0, 0)}, {net(1, 1, in(0, 0, 18), in(0, 0, 18), in(none, 0, 36)), 1, ranges(17, 19, 17, 19, 36, 36)},
	} {
		if list, e := angle.Bounds(x.n, x.err); !slices.Equal(list, x.want) || e != api.OK {
			t.Errorf("Bounds of %v with %d: %v, %v, not %v", x.n, x.err, list, e, x.want)
		}
	}
}

// P7.3: truths that are the only ones.
func TestShow(t *testing.T) {
	for _, x := range []struct {
		n    angle.Net
		err  int
		want []int
	}{
		{triangle(10, 12, 17), 1, numbers(9, 11, 16)}, {triangle(10, 12, 14), 0, numbers(10, 12, 14)}, {triangle(20), 16, numbers(36)}, {circle(0, 0), 36, numbers(36, 36)}, {circle(40, 26, 0), 3, numbers(40, 29, 3)}, {endless(), 40, numbers(36, 36, 0)}, {wrong(), 36, slices.Repeat(numbers(36), 12)}, {net(0, 0, in(none, none, 7)), 0, numbers(7)},
	} {
		if list, e := angle.Show(x.n, x.err); !slices.Equal(list, x.want) || e != api.OK {
			t.Errorf("Show of %v with %d: %v, %v, not %v", x.n, x.err, list, e, x.want)
		}
	}
	if list, e := angle.Show(example(), 2); e != api.OK || !angle.ProveTruth(example(), 2, list) {
		t.Errorf("Show of the example: %v, %v", list, e)
	}
}

// P7.4
func TestControlled(t *testing.T) {
	three := circle(20, 26, 26)
	for _, x := range []struct {
		n    angle.Net
		err  int
		want []int
	}{
		{example(), 2, numbers(0, 1, 2, 3, 4, 5)}, {net(0, 0, in(none, none, 7)), 0, nil}, {net(1, 0, in(none, none, 7), in(0, none, 36), in(none, none, 40)), 40, numbers(1)}, {triangle(12, 12, 12), 40, numbers(0, 1, 2)},
		// The others are from 34 to 70, then from 32 to 72, as this one needs them.
		{three, 9, numbers(0, 1, 2)}, {three, 10, numbers(1, 2)}, {three, 12, numbers(1, 2)}, {three, 13, nil}, {three, 40, nil}, {circle(36, 36), 40, numbers(0, 1)},
		// All but 0, and all but 40.
		{circle(20, 26, 25), 10, numbers(0, 1, 2)}, {circle(20, 26, 27), 10, numbers(0, 1, 2)},
		{net(1, 1, in(none, 0, 20), in(none, 0, 26), in(none, 0, 26), in(0, none, 36)), 10, numbers(1, 2, 3)},
	} {
		if list, e := angle.Controlled(x.n, x.err); !slices.Equal(list, x.want) || e != api.OK {
			t.Errorf("Controlled of %v with %d: %v, %v, not %v", x.n, x.err, list, e, x.want)
		}
	}
}

// P7.5
func TestLeave(t *testing.T) {
	for _, x := range []struct {
		n    angle.Net
		err  int
		want []int
	}{
		{example(), 0, numbers(0, 2, 3)}, {example(), 2, nil}, {example(), 40, nil},
		{triangle(10, 12, 17), 0, numbers(0)}, {triangle(10, 12, 17), 1, nil}, {triangle(10, 12, 14), 0, nil}, {triangle(0, 0, 40), 0, numbers(2)}, {triangle(0, 40, 0), 3, numbers(1)}, {triangle(0, 40, 0), 4, nil}, {triangle(20, 20, 20), 0, numbers(0, 1)}, {triangle(40, 40, 20), 0, numbers(0, 1)}, {triangle(40, 40, 40), 0, numbers(0, 1, 2)},
		{circle(10, 10), 0, numbers(0, 1)}, {circle(33, 10), 0, numbers(1)}, {circle(10, 33), 0, numbers(0)}, {circle(31, 10), 0, numbers(0, 1)}, {circle(31, 10), 1, numbers(1)}, {weighted(triangle(10, 12, 18), 1, 1, 3), 0, numbers(0)}, {weighted(triangle(10, 12, 17), 3), 1, nil},
		{wrong(), 0, upTo(12)}, {wrong(), 35, upTo(12)[:7]}, {wrong(), 36, nil}, {endless(), 39, numbers(2)}, {net(1, 0, in(none, none, 7), in(0, none, 30)), 5, numbers(1)}, {net(0, 0, in(none, none, 7)), 0, nil},
	} {
		if list, e := angle.Leave(x.n, x.err); !slices.Equal(list, x.want) || e != api.OK {
			t.Errorf("Leave of %v with %d: %v, %v, not %v", x.n, x.err, list, e, x.want)
		}
	}
}

// P7.6
func TestProve(t *testing.T) {
	type try struct {
		n   angle.Net
		err int
	}
	list := []try{{example(), 0}, {example(), 1}, {triangle(10, 12, 17), 0}, {triangle(10, 12, 13), 0}, {circle(40, 26, 0), 2}, {circle(40, 40), 3}, {endless(), 39}, {wrong(), 35}, {wrong(), 0}}
	for _, n := range impossible() {
		list = append(list, try{n, 0}, try{n, 40})
	}
	for _, x := range list {
		if c, e := angle.Prove(x.n, x.err); e != api.OK || !angle.ProveCut(x.n, x.err, c) || !modelProves(x.n, modelRooms(x.n, x.err), c) {
			t.Errorf("Prove of %v with %d: %v, %v", x.n, x.err, c, e)
		}
	}
	// Cuts that are the only ones.
	for _, x := range []struct {
		n    angle.Net
		err  int
		want angle.Cut
	}{{triangle(10, 12, 17), 0, cut(numbers(0))}, {circle(40, 40), 3, cut(nil, 0)}, {net(2, 0, in(0, none, 36)), 40, cut(numbers(1))}, {net(1, 2, in(0, 0, 36), in(none, 0, 36)), 40, cut(nil, 1)}} {
		if c, e := angle.Prove(x.n, x.err); !equalCuts(c, x.want) || e != api.OK {
			t.Errorf("Prove of %v with %d: %v, %v, not %v", x.n, x.err, c, e, x.want)
		}
	}
}

func equalCuts(a, b angle.Cut) bool {
	return slices.Equal(a.Triangles, b.Triangles) && slices.Equal(a.Circles, b.Circles)
}

// P7.6
func TestProveCut(t *testing.T) {
	three := numbers(0, 1, 2)
	for _, x := range []struct {
		what string
		n    angle.Net
		err  int
		c    angle.Cut
		want bool
	}{
		{"the first example", example(), 1, cut(numbers(0, 1), 0), true}, {"the second one", example(), 0, cut(numbers(0)), true}, {"the third one", example(), 1, cut(numbers(0)), false}, {"the smallest error", example(), 2, cut(numbers(0, 1), 0), false}, {"an error below 0", example(), -1, cut(numbers(0, 1), 0), false}, {"an error that is too large", net(1, 0, in(none, none, 1)), 41, cut(numbers(0)), false}, {"the greatest error", net(1, 0, in(none, none, 1)), math.MaxInt, cut(numbers(0)), false}, {"the error 40", net(1, 0, in(none, none, 1)), 40, cut(numbers(0)), true},
		{"nothing", example(), 0, cut(nil), false}, {"another triangle", example(), 0, cut(numbers(1)), true}, {"another triangle with more error", example(), 1, cut(numbers(1)), false}, {"the circle", example(), 0, cut(nil, 0), true}, {"the circle with more error", example(), 1, cut(nil, 0), false}, {"a triangle and the circle", example(), 0, cut(numbers(0), 0), true},
		{"equal triangles", example(), 0, cut(numbers(0, 0)), false}, {"triangles that fall", example(), 1, cut(numbers(1, 0), 0), false}, {"a triangle below 0", example(), 0, cut(numbers(-1, 0)), false}, {"a triangle too many", example(), 0, cut(numbers(0, 2)), false}, {"equal circles", example(), 0, cut(nil, 0, 0), false}, {"a circle below 0", example(), 0, cut(nil, -1, 0), false}, {"a circle too many", example(), 0, cut(nil, 0, 1), false}, {"None", example(), 0, cut(numbers(none), none), false},
		{"the greatest triangle", example(), 0, cut(numbers(0, math.MaxInt)), false}, {"the smallest circle", example(), 0, cut(nil, math.MinInt, 0), false}, {"rising circles", wrong(), 0, cut(numbers(0, 1), 0, 1, 2, 3, 4), true}, {"circles that fall", wrong(), 0, cut(nil, 1, 0), false},
		{"too small", triangle(10, 10, 10), 1, cut(numbers(0)), true}, {"just not too small", triangle(10, 10, 10), 2, cut(numbers(0)), false}, {"too large", triangle(20, 20, 2), 1, cut(numbers(0)), true}, {"just not too large", triangle(20, 20, 2), 2, cut(numbers(0)), false}, {"a circle that is too small", circle(23, 23, 22), 1, cut(nil, 0), true}, {"a circle that is just not too small", circle(23, 23, 23), 1, cut(nil, 0), false}, {"a circle that is too large", circle(25, 25, 26), 1, cut(nil, 0), true}, {"a circle that is just not too large", circle(25, 25, 25), 1, cut(nil, 0), false},
		{"by weight", weighted(triangle(20, 19, 2), 3), 1, cut(numbers(0)), false}, {"by a weight that does not matter", weighted(triangle(20, 19, 2), 1, 1, 3), 1, cut(numbers(0)), true}, {"nothing can be below 0", triangle(0, 0, 40), 3, cut(numbers(0)), true},
		// The angle of both does not count.
		{"an angle of both", net(1, 1, in(0, 0, 0), in(none, 0, 36)), 0, cut(numbers(0), 0), false}, {"an angle of both, and another one", net(1, 1, in(0, 0, 0), in(none, 0, 35)), 0, cut(numbers(0), 0), true}, {"an angle of both, and a greater one", net(1, 1, in(0, 0, 0), in(none, 0, 37)), 0, cut(numbers(0), 0), true}, {"outer and inner", net(1, 1, in(0, none, 10), in(none, 0, 40)), 5, cut(numbers(0), 0), true}, {"outer and inner with more error", net(1, 1, in(0, none, 10), in(none, 0, 40)), 6, cut(numbers(0), 0), false},
		{"no triangle", circle(36, 36), 0, cut(numbers(0)), false}, {"no circle", triangle(36), 0, cut(nil, 0), false}, {"a triangle without angles", net(3, 0, in(0, none, 36), in(2, none, 36)), 40, cut(numbers(1)), true}, {"triangles of which one has no angles", net(3, 0, in(0, none, 36), in(2, none, 36)), 0, cut(three), true},
		{"a wrong net", changed(func(n *angle.Net) { n.Angles[4].Read = 41 }), 0, cut(numbers(0)), false}, {"too many triangles", changed(func(n *angle.Net) { n.Triangles = 6 }), 0, cut(numbers(0)), false}, {"no net", angle.Net{}, 0, cut(nil), false},
	} {
		if ok := angle.ProveCut(x.n, x.err, x.c); ok != x.want {
			t.Errorf("ProveCut with %s: %v", x.what, ok)
		}
	}
}

// P7.1 to P7.6: the errors of all calls, in their order.
func TestErrorsInOrder(t *testing.T) {
	good := input{net: example(), err: 2}
	with := func(change func(in *input)) input {
		in := good
		in.net = cloneNet(in.net)
		change(&in)
		return in
	}
	all := func(e api.Errno) []api.Errno { return slices.Repeat([]api.Errno{e}, 7) }
	ok, range0, fail, none0 := api.OK, api.ErrRange, api.ErrFail, api.ErrNone
	closing, open := []api.Errno{ok, ok, ok, ok, ok, ok, none0}, []api.Errno{ok, ok, fail, fail, fail, ok, ok}
	badError, noTruth := []api.Errno{ok, ok, range0, range0, range0, range0, range0}, []api.Errno{ok, fail, fail, fail, fail, fail, ok}
	for _, x := range []struct {
		what string
		in   input
		want []api.Errno
	}{
		{"a truth", good, closing}, {"no truth within the error", with(func(in *input) { in.err = 1 }), open}, {"no truth with the error 0", with(func(in *input) { in.err = 0 }), open}, {"the greatest error", with(func(in *input) { in.err = 40 }), closing},
		{"an error below 0", with(func(in *input) { in.err = -1 }), badError}, {"an error that is too large", with(func(in *input) { in.err = 41 }), badError}, {"the greatest number as error", with(func(in *input) { in.err = math.MaxInt }), badError}, {"the smallest number as error", with(func(in *input) { in.err = math.MinInt }), badError},
		{"no truth", with(func(in *input) { in.net.Circles = 2 }), noTruth}, {"no truth at all", with(func(in *input) { in.net.Triangles, in.err = 3, 40 }), noTruth}, {"no truth and a wrong error", with(func(in *input) { in.net.Circles, in.err = 2, 41 }), []api.Errno{ok, fail, range0, range0, range0, range0, range0}},
		{"no net", input{}, all(api.ErrArg)}, {"no net and a wrong error", input{err: 99}, all(api.ErrArg)}, {"a wrong angle and a wrong error", with(func(in *input) { in.net.Angles[0].Read, in.err = 41, -1 }), all(api.ErrArg)}, {"a wrong angle and no truth", with(func(in *input) { in.net.Angles[5].Weight, in.net.Circles = 4, 2 }), all(api.ErrArg)},
		{"too many angles and a wrong one", with(func(in *input) { in.net.Angles, in.err = make([]angle.Angle, 13), 99 }), all(api.ErrLimit)}, {"too many triangles and a wrong angle", with(func(in *input) { in.net.Triangles, in.net.Angles[0].Read = 6, 41 }), all(api.ErrLimit)}, {"too many circles and no angles", with(func(in *input) { in.net.Circles, in.net.Angles = 6, nil }), all(api.ErrLimit)},
	} {
		results := x.in.all()
		if list := errorsOf(results); !slices.Equal(list, x.want) {
			t.Errorf("%s: %v, not %v", x.what, list, x.want)
		}
		failed(t, results)
	}
	for _, n := range impossible() {
		for err := range api.MaxAngleError + 1 {
			results := input{net: n, err: err}.all()
			if list := errorsOf(results); !slices.Equal(list, noTruth) {
				t.Errorf("%v with %d: %v", n, err, list)
			}
			failed(t, results)
		}
	}
}

// asTheModel compares all calls with the second reading.
func asTheModel(t *testing.T, n angle.Net, err int, s scale, seen map[string]int) {
	t.Helper()
	least, possible := modelLeast(n, s.closes)
	got, e := angle.Least(n)
	if got != least || (e == api.OK) != possible || !possible && e != api.ErrFail {
		t.Fatalf("%v: Least %v, %v, not %v, %v", n, got, e, least, possible)
	}
	left, e := angle.Leave(n, err)
	if !possible {
		seen["impossible"]++
		if e != api.ErrFail {
			t.Fatalf("%v: Leave %v, %v", n, left, e)
		}
		return
	}
	if want := modelLeave(n, err, s.closes); !slices.Equal(left, want) || e != api.OK {
		t.Fatalf("%v: Leave with %d: %v, %v, not %v", n, err, left, e, want)
	}
	if len(left) > 1 {
		seen["left out"]++
	}
	if err < least {
		seen["open"]++
		return
	}
	seen["closing"]++
	bounds, e := angle.Bounds(n, err)
	if want := modelBounds(n, err, s.closes); !slices.Equal(bounds, want) || e != api.OK {
		t.Fatalf("%v: Bounds with %d: %v, %v, not %v", n, err, bounds, e, want)
	}
	if slices.ContainsFunc(bounds, func(b angle.Range) bool { return b.Lo < b.Hi && b.Hi-b.Lo < 2*err }) {
		seen["narrow"]++
	}
	controlled, e := angle.Controlled(n, err)
	if want := modelControlled(n, err, s.closes); !slices.Equal(controlled, want) || e != api.OK {
		t.Fatalf("%v: Controlled with %d: %v, %v, not %v", n, err, controlled, e, want)
	}
	if len(controlled) > 0 && len(controlled) < len(n.Angles) {
		seen["partly controlled"]++
	}
	if truth, e := angle.Show(n, err); e != api.OK || !isTruth(n, modelRooms(n, err), truth) {
		t.Fatalf("%v: Show with %d: %v, %v", n, err, truth, e)
	}
}

// someError is near the smallest error, if there is one.
func someError(r *rand.Rand, n angle.Net) int {
	least, _ := angle.Least(n)
	return min(max(0, least+[]int{-1, 0, 0, 1, 2, -4, 5, r.Intn(41), -40}[r.Intn(9)]), api.MaxAngleError)
}

// P7.2 to P7.5: all truths, and all cuts, are tried.
func TestAsTheModel(t *testing.T) {
	for _, x := range []struct {
		s    scale
		many int
	}{{small, 300}, {large, 400}} {
		seen := map[string]int{}
		eachOf(x.s, x.many, func(r *rand.Rand, n angle.Net) { asTheModel(t, n, someError(r, n), x.s, seen) })
		for _, what := range []string{"impossible", "left out", "open", "closing", "narrow", "partly controlled"} {
			if seen[what] < 10 {
				t.Errorf("only so many of each: %v", seen)
			}
		}
	}
}

// P7.1: all lists of numbers near a truth are tried.
func TestProveTruthAsTheModel(t *testing.T) {
	counts := map[bool]int{}
	eachNet(300, func(r *rand.Rand, n angle.Net) {
		err := someError(r, n)
		truth, _ := angle.Show(n, api.MaxAngleError)
		if nearer, e := angle.Show(n, err); e == api.OK && r.Intn(2) == 0 {
			truth = nearer
		}
		for i := range truth {
			for j := range truth {
				other := slices.Clone(truth)
				some := r.Intn(5) - 2
				other[i] += some
				other[j] -= some
				want := isTruth(n, modelRooms(n, err), other)
				counts[want]++
				if ok := angle.ProveTruth(n, err, other); ok != want {
					t.Fatalf("%v: ProveTruth of %v with %d: %v", n, other, err, ok)
				}
			}
		}
	})
	if counts[true] < 500 || counts[false] < 500 {
		t.Errorf("only so many lists that are truths, or not: %v", counts)
	}
}

// P7.6: all cuts are tried.
func TestCutsAsTheModel(t *testing.T) {
	counts := map[bool]int{}
	eachNet(300, func(r *rand.Rand, n angle.Net) {
		err := someError(r, n)
		rooms := modelRooms(n, err)
		proved := false
		eachCut(n, func(c angle.Cut) {
			want := modelProves(n, rooms, c)
			proved = proved || want
			counts[want]++
			if ok := angle.ProveCut(n, err, c); ok != want {
				t.Fatalf("%v: ProveCut of %v with %d: %v", n, c, err, ok)
			}
		})
		c, e := angle.Prove(n, err)
		if !proved && (e != api.ErrNone || !equalCuts(c, angle.Cut{})) || proved && (e != api.OK || !modelProves(n, rooms, c)) {
			t.Fatalf("%v: Prove with %d: %v, %v", n, err, c, e)
		}
	})
	if counts[true] < 1000 || counts[false] < 1000 {
		t.Errorf("only so many cuts that prove, or not: %v", counts)
	}
}

// P1: whatever the arguments are, each call returns, and with an error it has no other result.
func TestAnyArguments(t *testing.T) {
	r := rand.New(rand.NewSource(20))
	some := func() int {
		return []int{math.MinInt, -2, -1, 0, 0, 1, 1, 2, 3, 5, 6, 36, 40, 41, math.MaxInt}[r.Intn(15)]
	}
	list := func(most int) []int {
		var list []int
		for range r.Intn(most + 1) {
			list = append(list, some())
		}
		return list
	}
	valid := 0
	for range 4000 {
		in := input{net: randomNet(r, small), err: some(), truth: list(7), cut: angle.Cut{Triangles: list(3), Circles: list(3)}}
		switch r.Intn(4) {
		case 0:
			in.net.Triangles, in.net.Circles = some(), some()
		case 1:
			in.net.Angles = append(in.net.Angles, heavy(some(), some(), some(), some()))
		case 2:
			in.net.Angles = make([]angle.Angle, r.Intn(15))
		}
		failed(t, in.all())
		angle.ProveTruth(in.net, in.err, in.truth)
		angle.ProveCut(in.net, in.err, in.cut)
		if angle.CheckNet(in.net) == api.OK {
			valid++
		}
	}
	if valid < 800 || valid > 3200 {
		t.Errorf("%d nets are valid", valid)
	}
}

// R4: arguments are not written to, and results are in memory of their own.
func TestMemory(t *testing.T) {
	for _, err := range numbers(0, 2) {
		in := input{net: example(), err: err, truth: numbers(8, 10, 18, 16, 38, 20, 7)[:6], cut: cut(numbers(0, 1, 7)[:2], 0)}
		kept := in
		kept.net, kept.truth, kept.cut = cloneNet(in.net), slices.Clone(in.truth), cut(slices.Clone(in.cut.Triangles), 0)
		first, again := in.all(), in.all()
		angle.ProveTruth(in.net, in.err, in.truth)
		angle.ProveCut(in.net, in.err, in.cut)
		if !reflect.DeepEqual(in, kept) || in.truth[:7][6] != 7 || in.cut.Triangles[:3][2] != 7 {
			t.Fatalf("arguments became %v", in)
		}
		fill(t, first, again)
		if !reflect.DeepEqual(in, kept) || !reflect.DeepEqual(in.all(), again) {
			t.Error("the arguments, or later results, changed with the results")
		}
	}
}

// fill fills all lists, those behind their ends included, one by one; no other one may change.
func fill(t *testing.T, results, want []any) {
	t.Helper()
	for i, x := range results {
		switch list := x.(type) {
		case []int:
			fillInts(list)
		case []angle.Range:
			for j := range list[:cap(list)] {
				list[:cap(list)][j] = angle.Range{Lo: 99, Hi: 99}
			}
		case angle.Cut:
			fillInts(list.Triangles)
			if !slices.Equal(list.Circles, want[i].(angle.Cut).Circles) {
				t.Errorf("circles became %v with triangles", list.Circles)
			}
			fillInts(list.Circles)
		}
		for j, y := range results {
			if j > i && !reflect.DeepEqual(y, want[j]) {
				t.Errorf("the result %d became %v with %d", j, y, i)
			}
		}
	}
}

func fillInts(list []int) {
	list = list[:cap(list)]
	for i := range list {
		list[i] = 99
	}
}
