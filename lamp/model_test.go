package lamp_test

import (
	"math/rand"
	"slices"

	"glister/api"
	"glister/lamp"
)

// A second reading of the chapter: oil is added and burned drop by drop, and all truths, all plans and all sets of dips are tried; where there are too many truths, all oil that there can be is followed from night to night, for each number of drops that is asked for.

// modelNight returns what is left, what is given back, and whether the night is lit.
func modelNight(s lamp.Store, night, cans, wicks, oil, burn int) (left, back int, lit bool) {
	for range cans * s.Can {
		if oil < s.Cap {
			oil++
		} else {
			back++
		}
	}
	lit = true
	for range s.Nights[night].Hours {
		for range wicks * burn {
			if oil == 0 {
				lit = false
			} else {
				oil--
			}
		}
	}
	return oil, back, lit
}

// record is what Play returns.
type record struct {
	left, back []int
	lit        []bool
}

func modelPlay(s lamp.Store, p lamp.Plan, t lamp.Truth) record {
	var x record
	oil := t.Start
	for night := range s.Nights {
		left, back, lit := modelNight(s, night, p.Cans[night], p.Wicks[night], oil, t.Burn[night])
		x.left, x.back, x.lit = append(x.left, left), append(x.back, back), append(x.lit, lit)
		oil = left
	}
	return x
}

// eachList calls the test with each list of one number of each range, in lexicographic order.
func eachList(of []lamp.Range, test func(list []int)) {
	var try func(list []int)
	try = func(list []int) {
		if len(list) == len(of) {
			test(slices.Clone(list))
			return
		}
		for n := of[len(list)].Lo; n <= of[len(list)].Hi; n++ {
			try(append(list, n))
		}
	}
	try(nil)
}

func burns(s lamp.Store) []lamp.Range {
	var list []lamp.Range
	for _, n := range s.Nights {
		list = append(list, n.Burn)
	}
	return list
}

func wickRanges(s lamp.Store) []lamp.Range {
	var list []lamp.Range
	for _, n := range s.Nights {
		list = append(list, span(n.Least, n.Most))
	}
	return list
}

func canRanges(s lamp.Store) []lamp.Range {
	return slices.Repeat([]lamp.Range{span(0, api.MaxLampCans)}, len(s.Nights))
}

// eachTruth calls the test with each truth.
func eachTruth(s lamp.Store, test func(t lamp.Truth)) {
	for start := s.Start.Lo; start <= s.Start.Hi; start++ {
		eachList(burns(s), func(list []int) { test(lamp.Truth{Start: start, Burn: list}) })
	}
}

// agrees tells whether the oil after the nights agrees with all dips.
func agrees(left []int, dips []lamp.Dip) bool {
	for _, d := range dips {
		if left[d.Night] < d.Oil.Lo || left[d.Night] > d.Oil.Hi {
			return false
		}
	}
	return true
}

// solver tells whether the dips do not contradict each other.
type solver func(s lamp.Store, p lamp.Plan, dips []lamp.Dip) bool

// byTruths tries all truths.
func byTruths(s lamp.Store, p lamp.Plan, dips []lamp.Dip) bool {
	found := false
	eachTruth(s, func(t lamp.Truth) { found = found || agrees(modelPlay(s, p, t).left, dips) })
	return found
}

// byNights follows all oil that there can be.
func byNights(s lamp.Store, p lamp.Plan, dips []lamp.Dip) bool {
	var can [api.MaxLampCap + 1]bool
	for oil := s.Start.Lo; oil <= s.Start.Hi; oil++ {
		can[oil] = true
	}
	for night, n := range s.Nights {
		var after [api.MaxLampCap + 1]bool
		for oil, ok := range can {
			for burn := n.Burn.Lo; ok && burn <= n.Burn.Hi; burn++ {
				after[max(0, min(s.Cap, oil+p.Cans[night]*s.Can)-n.Hours*p.Wicks[night]*burn)] = true
			}
		}
		for _, d := range dips {
			for oil := range after {
				if d.Night == night && (oil < d.Oil.Lo || oil > d.Oil.Hi) {
					after[oil] = false
				}
			}
		}
		can = after
	}
	return slices.Contains(can[:], true)
}

// modelOil tries with one more dip whether there can be each number of drops after each night; it returns the ranges of all numbers that there can be, and how many there are.
func modelOil(s lamp.Store, p lamp.Plan, dips []lamp.Dip, open solver) (ranges []lamp.Range, many int) {
	for night := range s.Nights {
		var all []int
		for oil := range s.Cap + 1 {
			if open(s, p, append(slices.Clone(dips), lamp.Dip{Night: night, Oil: span(oil, oil)})) {
				all = append(all, oil)
			}
		}
		if len(all) == 0 {
			return nil, 0
		}
		ranges = append(ranges, span(slices.Min(all), slices.Max(all)))
		many += len(all)
	}
	return ranges, many
}

// modelDark tries all truths.
func modelDark(s lamp.Store, p lamp.Plan) []int {
	dark := make([]bool, len(s.Nights))
	eachTruth(s, func(t lamp.Truth) {
		for night, lit := range modelPlay(s, p, t).lit {
			dark[night] = dark[night] || !lit
		}
	})
	var list []int
	for night, can := range dark {
		if can {
			list = append(list, night)
		}
	}
	return list
}

// eachSet calls the test with each set of indexes below many.
func eachSet(many int, test func(list []int)) {
	for set := range 1 << many {
		var list []int
		for i := range many {
			if set>>i&1 == 1 {
				list = append(list, i)
			}
		}
		test(list)
	}
}

// isBefore tells whether the list is shorter than the other one, or as long and smaller at the first index at which they differ.
func isBefore(list, other []int) bool {
	return len(list) < len(other) || len(list) == len(other) && slices.Compare(list, other) < 0
}

// without returns the dips that are not left out.
func without(dips []lamp.Dip, left []int) []lamp.Dip {
	var list []lamp.Dip
	for i, d := range dips {
		if !slices.Contains(left, i) {
			list = append(list, d)
		}
	}
	return list
}

func modelLeave(s lamp.Store, p lamp.Plan, dips []lamp.Dip, open solver) []int {
	best := upTo(len(dips))
	eachSet(len(dips), func(list []int) {
		if isBefore(list, best) && open(s, p, without(dips, list)) {
			best = list
		}
	})
	return best
}

func sum(list []int) int {
	total := 0
	for _, n := range list {
		total += n
	}
	return total
}

func lightOf(s lamp.Store, wicks []int) int {
	total := 0
	for night, n := range s.Nights {
		total += n.Hours * wicks[night]
	}
	return total
}

// modelDeliver tries all cans.
func modelDeliver(s lamp.Store, wicks []int) (best []int) {
	eachList(canRanges(s), func(cans []int) {
		if len(modelDark(s, lamp.Plan{Cans: cans, Wicks: wicks})) == 0 && (best == nil || sum(cans) < sum(best)) {
			best = cans
		}
	})
	return best
}

// modelTrim tries all wicks.
func modelTrim(s lamp.Store, cans []int) (best []int) {
	eachList(wickRanges(s), func(wicks []int) {
		if len(modelDark(s, lamp.Plan{Cans: cans, Wicks: wicks})) == 0 && (best == nil || lightOf(s, wicks) > lightOf(s, best)) {
			best = wicks
		}
	})
	return best
}

// upTo lists the numbers below n.
func upTo(n int) []int {
	var list []int
	for i := range n {
		list = append(list, i)
	}
	return list
}

// scale tells how large random stores are: how many nights they have at most, and how many numbers more than one there can be at first, and be burned.
type scale struct{ nights, starts, burns int }

var (
	small = scale{3, 4, 2}
	large = scale{api.MaxLampNights, api.MaxLampCap, api.MaxLampBurn}
)

// few returns a number up to the most, more often a small one.
func few(r *rand.Rand, most int) int { return r.Intn(r.Intn(most+1) + 1) }

func randomStore(r *rand.Rand, x scale) lamp.Store {
	s := lamp.Store{Cap: 1 + r.Intn([]int{20, 100, api.MaxLampCap}[r.Intn(3)])}
	s.Can = 1 + few(r, min(s.Cap, api.MaxLampCan)-1)
	s.Start.Lo = r.Intn(s.Cap + 1)
	s.Start.Hi = min(s.Cap, s.Start.Lo+few(r, x.starts))
	for range 1 + r.Intn(x.nights) {
		n := lamp.Night{Hours: 1 + few(r, api.MaxLampHours-1), Least: 1 + few(r, api.MaxLampWicks-1)}
		n.Most = n.Least + r.Intn(api.MaxLampWicks-n.Least+1)
		n.Burn.Lo = few(r, 1+few(r, api.MaxLampBurn-1))
		n.Burn.Hi = min(api.MaxLampBurn, n.Burn.Lo+few(r, x.burns))
		s.Nights = append(s.Nights, n)
	}
	return s
}

func randomOf(r *rand.Rand, of []lamp.Range) []int {
	var list []int
	for _, x := range of {
		list = append(list, x.Lo+r.Intn(x.Hi-x.Lo+1))
	}
	return list
}

func randomPlan(r *rand.Rand, s lamp.Store) lamp.Plan {
	return lamp.Plan{Cans: randomOf(r, canRanges(s)), Wicks: randomOf(r, wickRanges(s))}
}

func randomTruth(r *rand.Rand, s lamp.Store) lamp.Truth {
	return lamp.Truth{Start: s.Start.Lo + r.Intn(s.Start.Hi-s.Start.Lo+1), Burn: randomOf(r, burns(s))}
}

// aDip is one that agrees with the truth, and not with many others.
func aDip(r *rand.Rand, s lamp.Store, p lamp.Plan, t lamp.Truth) lamp.Dip {
	night, far := r.Intn(len(s.Nights)), r.Intn(20)
	oil := modelPlay(s, p, t).left[night]
	return lamp.Dip{Night: night, Oil: span(max(0, oil-few(r, far)), min(api.MaxLampCap, oil+few(r, far)))}
}

// someDips agree, most of them, with one truth, and each of the others with some truth, or with none.
func someDips(r *rand.Rand, s lamp.Store, p lamp.Plan, most int) []lamp.Dip {
	var list []lamp.Dip
	t := randomTruth(r, s)
	for range r.Intn(most + 1) {
		d := aDip(r, s, p, t)
		switch r.Intn(6) {
		case 0:
			d = aDip(r, s, p, randomTruth(r, s))
		case 1:
			oil := r.Intn(s.Cap + 1)
			d.Oil = span(oil, oil+r.Intn(api.MaxLampCap-oil+1))
		}
		list = append(list, d)
	}
	return list
}

// eachOf calls the test with random stores of the scale, and plans, always the same ones.
func eachOf(x scale, many int, test func(r *rand.Rand, s lamp.Store, p lamp.Plan)) {
	r := rand.New(rand.NewSource(21))
	for range many {
		s := randomStore(r, x)
		test(r, s, randomPlan(r, s))
	}
}

// eachStore calls the test with random stores of any size, and plans, always the same ones.
func eachStore(many int, test func(r *rand.Rand, s lamp.Store, p lamp.Plan)) {
	r := rand.New(rand.NewSource(22))
	for range many {
		s := randomStore(r, []scale{large, large, small}[r.Intn(3)])
		test(r, s, randomPlan(r, s))
	}
}

func cloneStore(s lamp.Store) lamp.Store {
	s.Nights = slices.Clone(s.Nights)
	return s
}

func clonePlan(p lamp.Plan) lamp.Plan {
	return lamp.Plan{Cans: slices.Clone(p.Cans), Wicks: slices.Clone(p.Wicks)}
}
