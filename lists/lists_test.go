package lists_test

import (
	"math"
	"slices"
	"testing"

	"glister/lists"
)

// all collects the lists of Rising.
func all(many, end int) [][]int {
	var found [][]int
	for list := range lists.Rising(many, end) {
		found = append(found, list)
	}
	return found
}

func TestRising(t *testing.T) {
	for _, x := range []struct {
		many, end int
		want      [][]int
	}{
		{0, 0, [][]int{{}}}, {0, 3, [][]int{{}}}, {1, 0, nil}, {4, 3, nil}, {1, 3, [][]int{{0}, {1}, {2}}}, {3, 3, [][]int{{0, 1, 2}}},
		{2, 4, [][]int{{0, 1}, {0, 2}, {0, 3}, {1, 2}, {1, 3}, {2, 3}}},
	} {
		if found := all(x.many, x.end); !slices.EqualFunc(found, x.want, slices.Equal) {
			t.Errorf("Rising of %d below %d: %v, not %v", x.many, x.end, found, x.want)
		}
	}
}

// Each list that rises is there once, in lexicographic order.
func TestAllThatRise(t *testing.T) {
	for end := range 9 {
		total := 0
		for many := range end + 1 {
			found := all(many, end)
			total += len(found)
			for i, list := range found {
				if len(list) != many || !slices.IsSorted(list) || i > 0 && slices.Compare(found[i-1], list) >= 0 {
					t.Errorf("Rising of %d below %d: %v", many, end, found)
				}
			}
		}
		if total != 1<<end {
			t.Errorf("%d lists of numbers below %d", total, end)
		}
	}
}

// The loop can be left, and a list can be changed, without any effect on the others.
func TestLeftEarly(t *testing.T) {
	for list := range lists.Rising(2, 5) {
		if list[0] == 1 {
			break
		}
		list[0], list[1] = 9, 9
	}
	if found := all(2, 3); !slices.EqualFunc(found, [][]int{{0, 1}, {0, 2}, {1, 2}}, slices.Equal) {
		t.Errorf("Rising afterwards: %v", found)
	}
}

// The lists are tried in their order, each one once, up to the first one that passes.
func TestShortest(t *testing.T) {
	for _, x := range []struct {
		what  string
		end   int
		test  func([]int) bool
		want  []int
		found bool
		tried int
	}{
		{"any list", 3, func([]int) bool { return true }, nil, true, 1},
		{"no list", 3, func([]int) bool { return false }, nil, false, 8},
		{"no list of nothing", 0, func([]int) bool { return false }, nil, false, 1},
		{"a list with 1", 3, func(list []int) bool { return slices.Contains(list, 1) }, []int{1}, true, 3},
		{"a list with 3 or more as sum", 3, func(list []int) bool { return sum(list) >= 3 }, []int{1, 2}, true, 7},
		{"a list with 2 or more as sum", 3, func(list []int) bool { return sum(list) >= 2 }, []int{2}, true, 4},
		{"all numbers", 3, func(list []int) bool { return len(list) == 3 }, []int{0, 1, 2}, true, 8},
	} {
		tried := 0
		list, found := lists.Shortest(x.end, func(list []int) bool {
			tried++
			return x.test(list)
		})
		if !slices.Equal(list, x.want) || found != x.found || tried != x.tried {
			t.Errorf("Shortest with %s: %v, %v after %d, not %v, %v after %d", x.what, list, found, tried, x.want, x.found, x.tried)
		}
	}
}

func sum(list []int) int {
	total := 0
	for _, n := range list {
		total += n
	}
	return total
}

func TestRisesBelow(t *testing.T) {
	for _, x := range []struct {
		list []int
		end  int
		want bool
	}{
		{nil, 0, true}, {nil, 3, true}, {nil, -1, true}, {[]int{0}, 0, false}, {[]int{0}, 1, true}, {[]int{-1}, 3, false}, {[]int{2}, 3, true}, {[]int{3}, 3, false},
		{[]int{0, 1, 2}, 3, true}, {[]int{0, 2}, 3, true}, {[]int{1, 1}, 3, false}, {[]int{2, 1}, 3, false}, {[]int{0, 3}, 3, false}, {[]int{0, 1, 0}, 3, false},
		{[]int{math.MinInt}, 3, false}, {[]int{0, math.MaxInt}, 3, false}, {[]int{math.MaxInt - 1}, math.MaxInt, true},
	} {
		if got := lists.RisesBelow(x.list, x.end); got != x.want {
			t.Errorf("RisesBelow of %v, %d: %v", x.list, x.end, got)
		}
	}
}

func TestEvery(t *testing.T) {
	for _, x := range []struct {
		list []int
		want bool
	}{
		{nil, true}, {[]int{2}, true}, {[]int{1}, false}, {[]int{2, 4, 6}, true}, {[]int{1, 4, 6}, false}, {[]int{2, 4, 5}, false},
	} {
		if got := lists.Every(x.list, func(n int) bool { return n%2 == 0 }); got != x.want {
			t.Errorf("Every of %v: %v", x.list, got)
		}
	}
}

func TestSmallest(t *testing.T) {
	for _, x := range []struct {
		first  int
		others []int
		want   int
	}{
		{7, nil, 7}, {7, []int{8}, 7}, {7, []int{6}, 6}, {7, []int{9, -1, 8}, -1}, {-3, []int{0, -2}, -3}, {5, []int{4, 3, 2}, 2},
	} {
		if got := lists.Smallest(x.first, x.others...); got != x.want {
			t.Errorf("Smallest of %d, %v: %d", x.first, x.others, got)
		}
	}
}
