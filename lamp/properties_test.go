package lamp_test

import (
	"math/rand"
	"slices"
	"testing"

	"glister/api"
	"glister/lamp"
)

// oilOf returns the ranges of Oil, if the dips do not contradict each other.
func oilOf(t *testing.T, s lamp.Store, p lamp.Plan, list []lamp.Dip) ([]lamp.Range, bool) {
	t.Helper()
	oil, e := lamp.Oil(s, p, list)
	if e != api.ErrFail && (e != api.OK || len(oil) != len(s.Nights)) {
		t.Fatalf("%v: Oil of %v with %v: %v, %v", s, p, list, oil, e)
	}
	return oil, e == api.OK
}

// darkOf returns the nights that can become dark.
func darkOf(t *testing.T, s lamp.Store, p lamp.Plan) []int {
	t.Helper()
	list, e := lamp.Dark(s, p)
	if e != api.OK {
		t.Fatalf("%v: Dark of %v: %v, %v", s, p, list, e)
	}
	return list
}

// leaveOf returns the smallest set.
func leaveOf(t *testing.T, s lamp.Store, p lamp.Plan, list []lamp.Dip) []int {
	t.Helper()
	left, e := lamp.Leave(s, p, list)
	if e != api.OK {
		t.Fatalf("%v: Leave of %v with %v: %v, %v", s, p, list, left, e)
	}
	return left
}

// playedOf returns what Play returns for a truth of the store.
func playedOf(t *testing.T, s lamp.Store, p lamp.Plan, x lamp.Truth) record {
	t.Helper()
	got, e := played(s, p, x)
	if e != api.OK || len(got.left) != len(s.Nights) || len(got.back) != len(s.Nights) || len(got.lit) != len(s.Nights) {
		t.Fatalf("%v: Play of %v, %v: %v, %v", s, p, x, got, e)
	}
	return got
}

// extreme has the oil at first, and the drops to burn, at ends of their ranges.
func extreme(r *rand.Rand, s lamp.Store) lamp.Truth {
	x := lamp.Truth{Start: numbers(s.Start.Lo, s.Start.Hi)[r.Intn(2)]}
	for _, n := range s.Nights {
		x.Burn = append(x.Burn, numbers(n.Burn.Lo, n.Burn.Hi)[r.Intn(2)])
	}
	return x
}

// P8.7
func TestWhateverBurns(t *testing.T) {
	agree, lit, dark := 0, 0, 0
	eachStore(600, func(r *rand.Rand, s lamp.Store, p lamp.Plan) {
		list := someDips(r, s, p, 3)
		oil, _ := oilOf(t, s, p, list)
		can := darkOf(t, s, p)
		for range 30 {
			x := extreme(r, s)
			if r.Intn(2) == 0 {
				x = randomTruth(r, s)
			}
			got := playedOf(t, s, p, x)
			for night, ok := range got.lit {
				switch {
				case !ok && !slices.Contains(can, night):
					t.Fatalf("%v: Dark of %v: %v, but %v is dark in %v", s, p, can, night, x)
				case !ok:
					dark++
				case !slices.Contains(can, night):
					lit++
				}
			}
			if !agrees(got.left, list) {
				continue
			}
			agree++
			for night, left := range got.left {
				if left < oil[night].Lo || left > oil[night].Hi {
					t.Fatalf("%v: Oil of %v with %v: %v, but %v in %v", s, p, list, oil, got.left, x)
				}
			}
		}
	})
	if agree < 3000 || lit < 3000 || dark < 3000 {
		t.Errorf("only %d truths that agree, %d lit nights, %d dark ones", agree, lit, dark)
	}
}

// P8.8, P4
func TestToTheDrop(t *testing.T) {
	back, dark := 0, 0
	eachStore(2000, func(r *rand.Rand, s lamp.Store, p lamp.Plan) {
		x := randomTruth(r, s)
		got := playedOf(t, s, p, x)
		oil, burned := x.Start, 0
		for night, n := range s.Nights {
			here := oil + p.Cans[night]*s.Can - got.back[night] - got.left[night]
			if need := n.Hours * p.Wicks[night] * x.Burn[night]; got.lit[night] && here != need || !got.lit[night] && (here >= need || got.left[night] != 0) {
				t.Fatalf("%v: Play of %v, %v: %v, but %v is burned in %v", s, p, x, got, here, night)
			}
			if got.left[night] < 0 || got.back[night] < 0 || here < 0 || got.left[night]+here > s.Cap {
				t.Fatalf("%v: Play of %v, %v: %v", s, p, x, got)
			}
			if got.back[night] > 0 && got.left[night]+here != s.Cap {
				t.Fatalf("%v: Play of %v, %v: %v is given back in %v, but the tank is not full", s, p, x, got.back[night], night)
			}
			if !got.lit[night] {
				dark++
			}
			oil, burned = got.left[night], burned+here
		}
		if x.Start+sum(p.Cans)*s.Can != got.left[len(got.left)-1]+sum(got.back)+burned {
			t.Fatalf("%v: Play of %v, %v: %v, and %v is burned", s, p, x, got, burned)
		}
		back += min(1, sum(got.back))
	})
	if back < 300 || dark < 300 {
		t.Errorf("only %d truths in which oil is given back, %d dark nights", back, dark)
	}
}

// P8.9, P2: with any number beyond an end the dips contradict each other.
func TestTheEnds(t *testing.T) {
	ends, beyond := 0, 0
	eachStore(150, func(r *rand.Rand, s lamp.Store, p lamp.Plan) {
		list := someDips(r, s, p, api.MaxLampDips-1)
		oil, ok := oilOf(t, s, p, list)
		if !ok {
			return
		}
		for night, x := range oil {
			for drops := range api.MaxLampCap + 1 {
				can := lampOpen(t, s, p, append(slices.Clone(list), dip(night, drops, drops)))
				switch {
				case can && (drops < x.Lo || drops > x.Hi):
					t.Fatalf("%v: Oil of %v with %v: %v, but there can be %d after %d", s, p, list, oil, drops, night)
				case !can && (drops == x.Lo || drops == x.Hi):
					t.Fatalf("%v: Oil of %v with %v: %v, but there cannot be %d after %d", s, p, list, oil, drops, night)
				case can:
					ends++
				default:
					beyond++
				}
			}
		}
	})
	if ends < 1000 || beyond < 1000 {
		t.Errorf("only %d numbers that there can be, %d beyond", ends, beyond)
	}
}

func lampOpen(t *testing.T, s lamp.Store, p lamp.Plan, list []lamp.Dip) bool {
	t.Helper()
	_, ok := oilOf(t, s, p, list)
	return ok
}

// P8.10
func TestMoreDips(t *testing.T) {
	more, narrower := 0, 0
	eachStore(1000, func(r *rand.Rand, s lamp.Store, p lamp.Plan) {
		list := someDips(r, s, p, api.MaxLampDips)
		if len(list) == 0 {
			return
		}
		fewer := list[:len(list)-1]
		before, after := leaveOf(t, s, p, fewer), leaveOf(t, s, p, list)
		if len(after) < len(before) {
			t.Fatalf("%v: Leave of %v with %v: %v, with one dip less %v", s, p, list, after, before)
		}
		if len(after) > len(before) {
			more++
		}
		oil, ok := oilOf(t, s, p, list)
		if !ok {
			return
		}
		wide, ok := oilOf(t, s, p, fewer)
		if !ok {
			t.Fatalf("%v: %v of %v do not contradict each other, but they do without the last one", s, list, p)
		}
		for night, x := range oil {
			if x.Lo < wide[night].Lo || x.Hi > wide[night].Hi {
				t.Fatalf("%v: Oil of %v with %v: %v, with one dip less %v", s, p, list, oil, wide)
			}
			if x != wide[night] {
				narrower++
			}
		}
	})
	if more < 50 || narrower < 100 {
		t.Errorf("only %d more that have to be left out, %d narrower ranges", more, narrower)
	}
}

// P8.11, P6: any list that is shorter is tried, and any that is as long and before the smallest set.
func TestLeftOut(t *testing.T) {
	lengths := map[int]int{}
	eachStore(800, func(r *rand.Rand, s lamp.Store, p lamp.Plan) {
		list := someDips(r, s, p, api.MaxLampDips)
		found := leaveOf(t, s, p, list)
		lengths[len(found)]++
		if !slices.IsSorted(found) || !lampOpen(t, s, p, without(list, found)) {
			t.Fatalf("%v: Leave of %v with %v: %v", s, p, list, found)
		}
		eachSet(len(list), func(other []int) {
			if isBefore(other, found) && lampOpen(t, s, p, without(list, other)) {
				t.Fatalf("%v: Leave of %v with %v: %v, but it can be %v", s, p, list, found, other)
			}
		})
	})
	for many := range 3 {
		if lengths[many] < 20 {
			t.Errorf("only so many smallest sets of each length: %v", lengths)
		}
	}
}

// notLess checks that no end of the oil is smaller than before, and each night that can become dark could do so before; it tells whether something changed.
func notLess(t *testing.T, s lamp.Store, p lamp.Plan, more lamp.Store, by lamp.Plan) bool {
	t.Helper()
	before, _ := oilOf(t, s, p, nil)
	after, _ := oilOf(t, more, by, nil)
	could, can := darkOf(t, s, p), darkOf(t, more, by)
	for night, x := range after {
		if x.Lo < before[night].Lo || x.Hi < before[night].Hi || slices.Contains(can, night) && !slices.Contains(could, night) {
			t.Fatalf("%v by %v: Oil %v, Dark %v; %v by %v: Oil %v, Dark %v", s, p, before, could, more, by, after, can)
		}
	}
	return len(can) < len(could) || !slices.Equal(after, before)
}

// P8.12: without dips.
func TestMoreOil(t *testing.T) {
	oil, cans := 0, 0
	eachStore(2000, func(r *rand.Rand, s lamp.Store, p lamp.Plan) {
		if s.Start.Hi < s.Cap {
			more, by := cloneStore(s), 1+few(r, s.Cap-s.Start.Hi-1)
			more.Start = span(s.Start.Lo+by, s.Start.Hi+by)
			if notLess(t, s, p, more, p) {
				oil++
			}
		}
		night := r.Intn(len(s.Nights))
		if p.Cans[night] < api.MaxLampCans {
			by := clonePlan(p)
			by.Cans[night]++
			if notLess(t, s, p, s, by) {
				cans++
			}
		}
	})
	if oil < 300 || cans < 300 {
		t.Errorf("only %d stores in which more oil changes something, %d in which a can does", oil, cans)
	}
}

// P8.13: without dips.
func TestMoreWicks(t *testing.T) {
	changes := 0
	eachStore(3000, func(r *rand.Rand, s lamp.Store, p lamp.Plan) {
		night := r.Intn(len(s.Nights))
		if p.Wicks[night] == s.Nights[night].Most {
			return
		}
		more := clonePlan(p)
		more.Wicks[night]++
		if notLess(t, s, more, s, p) {
			changes++
		}
	})
	if changes < 300 {
		t.Errorf("only %d stores in which one more wick changes something", changes)
	}
}

// P8.14, P3, P5: any cans are tried.
func TestFewestCans(t *testing.T) {
	counts := map[api.Errno]int{}
	several := 0
	eachStore(1000, func(r *rand.Rand, s lamp.Store, p lamp.Plan) {
		best, many, e := lamp.Deliver(s, p.Wicks)
		counts[e]++
		if e == api.OK && (many != sum(best) || !lamp.ProvePlan(s, plan(best, p.Wicks...))) {
			t.Fatalf("%v: Deliver for %v: %v, %v", s, p.Wicks, best, many)
		}
		if many > 1 {
			several++
		}
		eachList(canRanges(s), func(cans []int) {
			if !lamp.ProvePlan(s, plan(cans, p.Wicks...)) {
				return
			}
			if e != api.OK || sum(cans) < many || sum(cans) == many && slices.Compare(cans, best) < 0 {
				t.Fatalf("%v: Deliver for %v: %v, %v, %v, but it can be %v", s, p.Wicks, best, many, e, cans)
			}
		})
	})
	if counts[api.OK] < 100 || counts[api.ErrStuck] < 100 || several < 50 {
		t.Errorf("only so many of each: %v; %d times several cans", counts, several)
	}
}

// P8.15, P3, P5: any wicks are tried.
func TestMostLight(t *testing.T) {
	counts := map[api.Errno]int{}
	less, brighter := 0, 0
	eachStore(500, func(r *rand.Rand, s lamp.Store, p lamp.Plan) {
		best, light, e := lamp.Trim(s, p.Cans)
		counts[e]++
		if e == api.OK && (light != lightOf(s, best) || !lamp.ProvePlan(s, plan(p.Cans, best...))) {
			t.Fatalf("%v: Trim for %v: %v, %v", s, p.Cans, best, light)
		}
		if e == api.OK && !slices.Equal(best, mosts(s)) {
			less++
		}
		eachList(wickRanges(s), func(wicks []int) {
			if !lamp.ProvePlan(s, plan(p.Cans, wicks...)) {
				return
			}
			if e != api.OK || lightOf(s, wicks) > light || lightOf(s, wicks) == light && slices.Compare(wicks, best) < 0 {
				t.Fatalf("%v: Trim for %v: %v, %v, %v, but it can be %v", s, p.Cans, best, light, e, wicks)
			}
		})
		night := r.Intn(len(s.Nights))
		if p.Cans[night] == api.MaxLampCans {
			return
		}
		p.Cans[night]++
		_, more, f := lamp.Trim(s, p.Cans)
		if more < light || e == api.OK && f != api.OK {
			t.Fatalf("%v: Trim for %v: %v, %v, with one can less %v", s, p.Cans, more, f, light)
		}
		if more > light {
			brighter++
		}
	})
	if counts[api.OK] < 100 || counts[api.ErrStuck] < 100 || less < 40 || brighter < 20 {
		t.Errorf("only so many of each: %v; %d times not all wicks, %d times more light", counts, less, brighter)
	}
}

// P7: the order of dips does not matter, except for indexes.
func TestAnyOrder(t *testing.T) {
	odd, narrow := 0, 0
	eachStore(600, func(r *rand.Rand, s lamp.Store, p lamp.Plan) {
		list := someDips(r, s, p, api.MaxLampDips)
		other := make([]lamp.Dip, len(list))
		for i, place := range r.Perm(len(list)) {
			other[place] = list[i]
		}
		before, after := leaveOf(t, s, p, list), leaveOf(t, s, p, other)
		if len(before) != len(after) {
			t.Fatalf("%v: Leave of %v with %v: %v, with %v: %v", s, p, list, before, other, after)
		}
		if len(before) > 0 {
			odd++
		}
		oil, ok := oilOf(t, s, p, list)
		again, can := oilOf(t, s, p, other)
		if can != ok || !slices.Equal(oil, again) {
			t.Fatalf("%v: Oil of %v with %v: %v, with %v: %v", s, p, list, oil, other, again)
		}
		if ok && len(list) > 1 {
			narrow++
		}
	})
	if odd < 50 || narrow < 50 {
		t.Errorf("only %d with dips that contradict each other, %d with several that do not", odd, narrow)
	}
}
