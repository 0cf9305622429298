package lamp_test

import (
	"math"
	"math/rand"
	"reflect"
	"slices"
	"testing"

	"glister/api"
	"glister/lamp"
)

func numbers(list ...int) []int { return list }

func span(lo, hi int) lamp.Range { return lamp.Range{Lo: lo, Hi: hi} }

func ranges(ends ...int) []lamp.Range {
	var list []lamp.Range
	for i := 0; i < len(ends); i += 2 {
		list = append(list, span(ends[i], ends[i+1]))
	}
	return list
}

func night(hours, least, most, lo, hi int) lamp.Night {
	return lamp.Night{Hours: hours, Least: least, Most: most, Burn: span(lo, hi)}
}

func store(full, can int, start lamp.Range, nights ...lamp.Night) lamp.Store {
	return lamp.Store{Cap: full, Can: can, Start: start, Nights: nights}
}

func plan(cans []int, wicks ...int) lamp.Plan { return lamp.Plan{Cans: cans, Wicks: wicks} }

func truth(start int, burn ...int) lamp.Truth { return lamp.Truth{Start: start, Burn: burn} }

func dip(night, lo, hi int) lamp.Dip { return lamp.Dip{Night: night, Oil: span(lo, hi)} }

func dips(list ...lamp.Dip) []lamp.Dip { return list }

// example is the store of the chapter.
func example() lamp.Store {
	return store(100, 50, span(20, 30), night(5, 1, 3, 2, 3), night(4, 1, 2, 2, 2))
}

// usual is the plan of the chapter.
func usual() lamp.Plan { return plan(numbers(0, 1), 1, 2) }

// full has as much of everything as a store can have.
func full() lamp.Store {
	return store(400, 200, span(400, 400), slices.Repeat([]lamp.Night{night(14, 4, 4, 10, 10)}, 6)...)
}

// gaps has 0, 10 or 20 drops after its nights, and no other number between.
func gaps() lamp.Store {
	return store(40, 1, span(20, 20), night(10, 1, 1, 0, 1), night(10, 1, 1, 0, 1))
}

// quiet is the plan of gaps.
func quiet() lamp.Plan { return plan(numbers(0, 0), 1, 1) }

// changed is the example after a change.
func changed(change func(s *lamp.Store)) lamp.Store {
	s := example()
	change(&s)
	return s
}

// input has the arguments of all calls.
type input struct {
	store       lamp.Store
	plan        lamp.Plan
	truth       lamp.Truth
	dips        []lamp.Dip
	cans, wicks []int
}

// all has the results of each call that has an error.
func (in input) all() []any {
	e0 := lamp.CheckStore(in.store)
	left, back, lit, e1 := lamp.Play(in.store, in.plan, in.truth)
	oil, e2 := lamp.Oil(in.store, in.plan, in.dips)
	dark, e3 := lamp.Dark(in.store, in.plan)
	leave, e4 := lamp.Leave(in.store, in.plan, in.dips)
	cans, many, e5 := lamp.Deliver(in.store, in.wicks)
	wicks, light, e6 := lamp.Trim(in.store, in.cans)
	return []any{e0, left, back, lit, e1, oil, e2, dark, e3, leave, e4, cans, many, e5, wicks, light, e6}
}

// errorsOf picks the errors from the results of all: CheckStore, Play, Oil, Dark, Leave, Deliver, Trim.
func errorsOf(results []any) []api.Errno {
	var list []api.Errno
	for _, x := range results {
		if e, ok := x.(api.Errno); ok {
			list = append(list, e)
		}
	}
	return list
}

// failed checks that a call with an error has no other result.
func failed(t *testing.T, results []any) {
	t.Helper()
	start := 0
	for i, x := range results {
		e, ok := x.(api.Errno)
		if !ok {
			continue
		}
		if e != api.OK && slices.ContainsFunc(results[start:i], isSome) {
			t.Errorf("%v with %v in %v", results[start:i], e, results)
		}
		start = i + 1
	}
}

// isSome tells whether a result is not the zero value.
func isSome(x any) bool {
	if n, ok := x.(int); ok {
		return n != 0
	}
	return reflect.ValueOf(x).Len() > 0
}

// P8.1: what a store can have.
func TestCheckStore(t *testing.T) {
	tank := func(full, can, lo, hi int) lamp.Store {
		return changed(func(s *lamp.Store) { s.Cap, s.Can, s.Start = full, can, span(lo, hi) })
	}
	last := func(n lamp.Night) lamp.Store { return changed(func(s *lamp.Store) { s.Nights[1] = n }) }
	many := func(many int) lamp.Store {
		return changed(func(s *lamp.Store) { s.Nights = slices.Repeat([]lamp.Night{night(1, 1, 1, 0, 0)}, many) })
	}
	low, high := math.MinInt, math.MaxInt
	for _, x := range []struct {
		what string
		s    lamp.Store
		want api.Errno
	}{
		{"the example", example(), api.OK}, {"a full store", full(), api.OK}, {"nothing", lamp.Store{}, api.ErrArg},
		{"no tank", tank(0, 50, 0, 0), api.ErrArg}, {"the smallest tank", tank(1, 50, 0, 1), api.OK}, {"the largest tank", tank(400, 50, 20, 30), api.OK}, {"a larger tank", tank(401, 50, 20, 30), api.ErrArg}, {"a tank below 0", tank(-1, 50, 0, 0), api.ErrArg}, {"an endless tank", tank(high, 50, 20, 30), api.ErrArg}, {"the smallest number as Cap", tank(low, 50, 20, 30), api.ErrArg},
		{"empty cans", tank(100, 0, 20, 30), api.ErrArg}, {"the smallest cans", tank(100, 1, 20, 30), api.OK}, {"the largest cans", tank(100, 200, 20, 30), api.OK}, {"larger cans", tank(100, 201, 20, 30), api.ErrArg}, {"cans below 0", tank(100, -1, 20, 30), api.ErrArg}, {"endless cans", tank(100, high, 20, 30), api.ErrArg}, {"the smallest number as Can", tank(100, low, 20, 30), api.ErrArg},
		{"any oil at first", tank(100, 50, 0, 100), api.OK}, {"no oil at first", tank(100, 50, 0, 0), api.OK}, {"a full tank at first", tank(100, 50, 100, 100), api.OK}, {"more than a full tank", tank(100, 50, 20, 101), api.ErrArg}, {"oil below 0", tank(100, 50, -1, 30), api.ErrArg}, {"a range of none", tank(100, 50, 30, 29), api.ErrArg}, {"both ends above the tank", tank(100, 50, 101, 101), api.ErrArg}, {"both ends below 0", tank(100, 50, -2, -1), api.ErrArg}, {"all numbers as Start", tank(100, 50, low, high), api.ErrArg},
		{"no nights", many(0), api.ErrArg}, {"one night", many(1), api.OK}, {"six nights", many(6), api.OK}, {"seven nights", many(7), api.ErrLimit}, {"seven wrong nights", store(0, 0, span(9, 8), make([]lamp.Night, 7)...), api.ErrLimit},
		{"no hours", last(night(0, 1, 2, 2, 2)), api.ErrArg}, {"one hour", last(night(1, 1, 2, 2, 2)), api.OK}, {"14 hours", last(night(14, 1, 2, 2, 2)), api.OK}, {"15 hours", last(night(15, 1, 2, 2, 2)), api.ErrArg}, {"hours below 0", last(night(-1, 1, 2, 2, 2)), api.ErrArg}, {"endless hours", last(night(high, 1, 2, 2, 2)), api.ErrArg}, {"the smallest number as Hours", last(night(low, 1, 2, 2, 2)), api.ErrArg},
		{"no wick", last(night(4, 0, 2, 2, 2)), api.ErrArg}, {"four wicks", last(night(4, 4, 4, 2, 2)), api.OK}, {"one to four wicks", last(night(4, 1, 4, 2, 2)), api.OK}, {"five wicks", last(night(4, 1, 5, 2, 2)), api.ErrArg}, {"five wicks at least", last(night(4, 5, 5, 2, 2)), api.ErrArg}, {"more at least than at most", last(night(4, 3, 2, 2, 2)), api.ErrArg}, {"all numbers of wicks", last(night(4, low, high, 2, 2)), api.ErrArg},
		{"nothing burns", last(night(4, 1, 2, 0, 0)), api.OK}, {"0 to 10 burn", last(night(4, 1, 2, 0, 10)), api.OK}, {"10 burn", last(night(4, 1, 2, 10, 10)), api.OK}, {"11 burn", last(night(4, 1, 2, 2, 11)), api.ErrArg}, {"11 burn at least", last(night(4, 1, 2, 11, 11)), api.ErrArg}, {"below 0 burn", last(night(4, 1, 2, -1, 2)), api.ErrArg}, {"a range of no numbers burns", last(night(4, 1, 2, 3, 2)), api.ErrArg}, {"all numbers burn", last(night(4, 1, 2, low, high)), api.ErrArg},
	} {
		if e := lamp.CheckStore(x.s); e != x.want {
			t.Errorf("CheckStore of %s: %v, not %v", x.what, e, x.want)
		}
	}
}

// P8.1
func TestPlay(t *testing.T) {
	small := store(30, 20, span(0, 30), night(3, 1, 4, 0, 10))
	for _, x := range []struct {
		what  string
		s     lamp.Store
		p     lamp.Plan
		truth lamp.Truth
		want  record
	}{
		{"the example", example(), usual(), truth(22, 3, 2), record{numbers(7, 41), numbers(0, 0), []bool{true, true}}}, {"the most oil", example(), usual(), truth(30, 2, 2), record{numbers(20, 54), numbers(0, 0), []bool{true, true}}},
		{"as much as is needed", example(), plan(numbers(0, 0), 2, 1), truth(30, 3, 2), record{numbers(0, 0), numbers(0, 0), []bool{true, false}}}, {"a drop less", example(), plan(numbers(0, 1), 2, 1), truth(29, 3, 2), record{numbers(0, 42), numbers(0, 0), []bool{false, true}}}, {"much less", example(), plan(numbers(0, 0), 3, 2), truth(20, 3, 2), record{numbers(0, 0), numbers(0, 0), []bool{false, false}}},
		{"given back", example(), plan(numbers(2, 2), 1, 1), truth(20, 2, 2), record{numbers(90, 92), numbers(20, 90), []bool{true, true}}}, {"exactly full", small, plan(numbers(1), 1), truth(10, 1), record{numbers(27), numbers(0), []bool{true}}}, {"a drop too many", small, plan(numbers(1), 1), truth(11, 1), record{numbers(27), numbers(1), []bool{true}}}, {"cans for a full tank", small, plan(numbers(2), 4), truth(30, 0), record{numbers(30), numbers(40), []bool{true}}},
		{"given back before it becomes dark", small, plan(numbers(2), 1), truth(30, 10), record{numbers(0), numbers(40), []bool{true}}}, {"given back, and dark", small, plan(numbers(2), 4), truth(30, 3), record{numbers(0), numbers(40), []bool{false}}},
		{"nothing burns without oil", small, plan(numbers(0), 4), truth(0, 0), record{numbers(0), numbers(0), []bool{true}}}, {"one drop per hour without oil", small, plan(numbers(0), 1), truth(0, 1), record{numbers(0), numbers(0), []bool{false}}},
		{"a full store", full(), plan(slices.Repeat(numbers(2), 6), slices.Repeat(numbers(4), 6)...), truth(400, slices.Repeat(numbers(10), 6)...), record{make([]int, 6), numbers(400, 0, 0, 0, 0, 0), make([]bool, 6)}},
	} {
		left, back, lit, e := lamp.Play(x.s, x.p, x.truth)
		if got := (record{left, back, lit}); !reflect.DeepEqual(got, x.want) || e != api.OK {
			t.Errorf("Play with %s: %v, %v, not %v", x.what, got, e, x.want)
		}
	}
}

// P8.1: truths that the store cannot have.
func TestTruths(t *testing.T) {
	for _, x := range []struct {
		what  string
		truth lamp.Truth
		want  api.Errno
	}{
		{"the first truth", truth(20, 2, 2), api.OK}, {"the last one", truth(30, 3, 2), api.OK}, {"too little oil", truth(19, 2, 2), api.ErrRange}, {"too much oil", truth(31, 2, 2), api.ErrRange}, {"endless oil", truth(math.MaxInt, 2, 2), api.ErrRange}, {"the smallest number as Start", truth(math.MinInt, 2, 2), api.ErrRange},
		{"nothing", lamp.Truth{}, api.ErrRange}, {"no numbers", truth(20), api.ErrRange}, {"one number", truth(20, 2), api.ErrRange}, {"three numbers", truth(20, 2, 2, 2), api.ErrRange},
		{"too few drops", truth(20, 1, 2), api.ErrRange}, {"too many drops", truth(20, 4, 2), api.ErrRange}, {"too few in the last night", truth(20, 2, 1), api.ErrRange}, {"too many in the last night", truth(20, 2, 3), api.ErrRange}, {"endless drops", truth(20, 2, math.MaxInt), api.ErrRange}, {"the smallest number of drops", truth(20, math.MinInt, 2), api.ErrRange},
	} {
		if left, back, lit, e := lamp.Play(example(), usual(), x.truth); e != x.want || e != api.OK && len(left)+len(back)+len(lit) > 0 {
			t.Errorf("Play with %s: %v, %v, %v, %v, not %v", x.what, left, back, lit, e, x.want)
		}
	}
}

// P8.1 to P8.6: plans that the store cannot have.
func TestPlans(t *testing.T) {
	high, low := math.MaxInt, math.MinInt
	for _, x := range []struct {
		what string
		list []int
		cans bool
		want api.Errno
	}{
		{"no cans", numbers(0, 0), true, api.OK}, {"all cans", numbers(2, 2), true, api.OK}, {"three cans", numbers(3, 0), true, api.ErrRange}, {"three cans at last", numbers(0, 3), true, api.ErrRange}, {"cans below 0", numbers(0, -1), true, api.ErrRange}, {"endless cans", numbers(high, 0), true, api.ErrRange}, {"the smallest number of cans", numbers(0, low), true, api.ErrRange},
		{"no evening", nil, true, api.ErrRange}, {"one evening", numbers(1), true, api.ErrRange}, {"three evenings", numbers(0, 0, 0), true, api.ErrRange},
		{"the fewest wicks", numbers(1, 1), false, api.OK}, {"all wicks", numbers(3, 2), false, api.OK}, {"too many wicks", numbers(4, 1), false, api.ErrRange}, {"too many wicks at last", numbers(1, 3), false, api.ErrRange}, {"no wick", numbers(0, 1), false, api.ErrRange}, {"wicks below 0", numbers(1, -1), false, api.ErrRange}, {"endless wicks", numbers(1, high), false, api.ErrRange}, {"the smallest number of wicks", numbers(low, 1), false, api.ErrRange},
		{"no night", nil, false, api.ErrRange}, {"one night", numbers(1), false, api.ErrRange}, {"three nights", numbers(1, 1, 1), false, api.ErrRange},
	} {
		in := input{store: example(), plan: usual(), truth: truth(20, 2, 2), cans: numbers(1, 1), wicks: numbers(1, 1)}
		want := []api.Errno{api.OK, x.want, x.want, x.want, x.want, api.OK, api.OK}
		if x.cans {
			in.plan.Cans, in.cans, want[6] = x.list, x.list, x.want
		} else {
			in.plan.Wicks, in.wicks, want[5] = x.list, x.list, x.want
		}
		if x.what == "no cans" {
			want[6] = api.ErrStuck
		}
		results := in.all()
		if list := errorsOf(results); !slices.Equal(list, want) {
			t.Errorf("%s: %v, not %v", x.what, list, want)
		}
		failed(t, results)
		if x.want != api.OK && lamp.ProvePlan(in.store, in.plan) {
			t.Errorf("ProvePlan with %s", x.what)
		}
	}
	least := changed(func(s *lamp.Store) { s.Nights[0].Least = 2 })
	if list, e := lamp.Dark(least, usual()); e != api.ErrRange || list != nil {
		t.Errorf("Dark with too few wicks: %v, %v", list, e)
	}
}

// P8.2
func TestOil(t *testing.T) {
	full := store(30, 50, span(0, 30), night(1, 1, 1, 0, 0), night(14, 4, 4, 10, 10))
	for _, x := range []struct {
		what string
		s    lamp.Store
		p    lamp.Plan
		dips []lamp.Dip
		want []lamp.Range
	}{
		{"the example", example(), usual(), nil, ranges(5, 20, 39, 54)}, {"a dip", example(), usual(), dips(dip(0, 16, 20)), ranges(16, 20, 50, 54)}, {"a dip at an end", example(), usual(), dips(dip(0, 20, 400)), ranges(20, 20, 54, 54)}, {"a dip at the other end", example(), usual(), dips(dip(0, 0, 5)), ranges(5, 5, 39, 39)},
		{"a dip after the last night", example(), usual(), dips(dip(1, 54, 54)), ranges(20, 20, 54, 54)}, {"another one", example(), usual(), dips(dip(1, 0, 44)), ranges(5, 10, 39, 44)}, {"two dips", example(), usual(), dips(dip(1, 0, 44), dip(0, 8, 400)), ranges(8, 10, 42, 44)}, {"two dips of one night", example(), usual(), dips(dip(0, 8, 12), dip(0, 10, 400)), ranges(10, 12, 44, 46)}, {"a dip that says nothing", example(), usual(), dips(dip(0, 0, 400), dip(1, 0, 400)), ranges(5, 20, 39, 54)},
		{"numbers between which there are none", gaps(), quiet(), nil, ranges(10, 20, 0, 20)}, {"one of them", gaps(), quiet(), dips(dip(1, 1, 19)), ranges(10, 20, 10, 10)}, {"the first of them", gaps(), quiet(), dips(dip(0, 0, 19)), ranges(10, 10, 0, 10)}, {"the last of them", gaps(), quiet(), dips(dip(1, 11, 400)), ranges(20, 20, 20, 20)}, {"a later one", gaps(), quiet(), dips(dip(1, 0, 9)), ranges(10, 10, 0, 0)},
		{"a full tank, and an empty one", full, plan(numbers(1, 0), 1, 4), nil, ranges(30, 30, 0, 0)}, {"any oil, and none", full, plan(numbers(0, 0), 1, 4), nil, ranges(0, 30, 0, 0)}, {"a dip before the lamp becomes dark", full, plan(numbers(0, 0), 1, 4), dips(dip(0, 3, 9), dip(1, 0, 0)), ranges(3, 9, 0, 0)},
	} {
		if list, e := lamp.Oil(x.s, x.p, x.dips); !slices.Equal(list, x.want) || e != api.OK {
			t.Errorf("Oil with %s: %v, %v, not %v", x.what, list, e, x.want)
		}
		if list, e := lamp.Leave(x.s, x.p, x.dips); len(list) > 0 || e != api.OK {
			t.Errorf("Leave with %s: %v, %v", x.what, list, e)
		}
	}
}

// P8.3
func TestDarkAndProvePlan(t *testing.T) {
	for _, x := range []struct {
		what string
		s    lamp.Store
		p    lamp.Plan
		want []int
	}{
		{"the example", example(), plan(numbers(0, 0), 2, 1), numbers(0, 1)}, {"its usual plan", example(), usual(), nil}, {"no can", example(), plan(numbers(0, 0), 1, 1), numbers(1)}, {"a can", example(), plan(numbers(1, 0), 3, 2), nil}, {"a can that comes late", example(), plan(numbers(0, 1), 3, 2), numbers(0)}, {"two cans that come late", example(), plan(numbers(0, 2), 2, 2), numbers(0)},
		{"as much as can be needed", changed(func(s *lamp.Store) { s.Start.Lo = 15 }), usual(), nil}, {"a drop less", changed(func(s *lamp.Store) { s.Start.Lo = 14 }), usual(), numbers(0)}, {"only with the most oil lit", changed(func(s *lamp.Store) { s.Start.Lo = 0 }), usual(), numbers(0)},
		{"in some truth", gaps(), quiet(), nil}, {"in some truth of the last night", changed(func(s *lamp.Store) { s.Nights[1].Burn.Hi = 7 }), usual(), numbers(1)}, {"nothing burns", store(1, 1, span(0, 0), night(14, 4, 4, 0, 0)), plan(numbers(0), 4), nil}, {"one drop burns", store(1, 1, span(0, 0), night(1, 1, 1, 0, 1)), plan(numbers(0), 1), numbers(0)}, {"one drop burns, and comes", store(1, 1, span(0, 0), night(1, 1, 1, 0, 1)), plan(numbers(1), 1), nil},
		{"a full store", full(), plan(slices.Repeat(numbers(2), 6), slices.Repeat(numbers(4), 6)...), upTo(6)}, {"what is given back does not burn", store(10, 10, span(10, 10), night(11, 1, 1, 1, 1)), plan(numbers(2), 1), numbers(0)},
	} {
		if list, e := lamp.Dark(x.s, x.p); !slices.Equal(list, x.want) || e != api.OK {
			t.Errorf("Dark with %s: %v, %v, not %v", x.what, list, e, x.want)
		}
		if ok := lamp.ProvePlan(x.s, x.p); ok != (len(x.want) == 0) {
			t.Errorf("ProvePlan with %s: %v", x.what, ok)
		}
	}
	for _, s := range []lamp.Store{{}, changed(func(s *lamp.Store) { s.Cap = 401 }), changed(func(s *lamp.Store) { s.Nights[1].Burn.Lo = 3 }), changed(func(s *lamp.Store) { s.Nights = slices.Repeat(s.Nights, 4) })} {
		if lamp.ProvePlan(s, usual()) || lamp.ProvePlan(s, lamp.Plan{}) {
			t.Errorf("ProvePlan of %v", s)
		}
	}
}

// P8.4
func TestLeave(t *testing.T) {
	odd := dips(dip(0, 11, 19), dip(1, 1, 9))
	for _, x := range []struct {
		what string
		s    lamp.Store
		p    lamp.Plan
		dips []lamp.Dip
		want []int
	}{
		{"the example", example(), usual(), dips(dip(0, 0, 4), dip(0, 5, 20)), numbers(0)}, {"the other order", example(), usual(), dips(dip(0, 5, 20), dip(0, 0, 4)), numbers(1)}, {"no dips", example(), usual(), nil, nil}, {"a dip", example(), usual(), dips(dip(0, 5, 20)), nil}, {"a dip that cannot be true", example(), usual(), dips(dip(1, 0, 38)), numbers(0)}, {"more than the tank holds", example(), usual(), dips(dip(1, 101, 400)), numbers(0)},
		{"one of two", example(), usual(), dips(dip(0, 5, 9), dip(0, 10, 20)), numbers(0)}, {"one against two", example(), usual(), dips(dip(0, 5, 9), dip(0, 10, 20), dip(1, 39, 40)), numbers(1)}, {"two nights", example(), usual(), dips(dip(0, 5, 9), dip(1, 50, 54)), numbers(0)}, {"two against two", example(), usual(), dips(dip(0, 5, 9), dip(1, 50, 54), dip(1, 39, 40), dip(0, 20, 20)), numbers(0, 2)}, {"each alone", example(), usual(), dips(dip(0, 5, 5), dip(0, 6, 6), dip(0, 7, 7), dip(0, 8, 8), dip(0, 9, 9), dip(0, 10, 10)), numbers(0, 1, 2, 3, 4)},
		{"none can be true", example(), usual(), slices.Repeat(dips(dip(0, 21, 400)), 6), upTo(6)}, {"one that is there twice", example(), usual(), dips(dip(0, 5, 9), dip(0, 10, 20), dip(0, 10, 20)), numbers(0)},
		{"between the numbers", gaps(), quiet(), odd, numbers(0, 1)}, {"after the oil went up", gaps(), quiet(), dips(dip(0, 10, 10), dip(1, 20, 20)), numbers(0)},
	} {
		if list, e := lamp.Leave(x.s, x.p, x.dips); !slices.Equal(list, x.want) || e != api.OK {
			t.Errorf("Leave with %s: %v, %v, not %v", x.what, list, e, x.want)
		}
		if list, e := lamp.Oil(x.s, x.p, x.dips); (e == api.OK) != (len(x.want) == 0) || e != api.OK && (e != api.ErrFail || list != nil) {
			t.Errorf("Oil with %s: %v, %v", x.what, list, e)
		}
	}
}

// P8.5
func TestDeliver(t *testing.T) {
	three := store(30, 10, span(0, 5), night(5, 1, 2, 1, 2), night(5, 1, 2, 1, 2), night(5, 1, 2, 1, 2))
	for _, x := range []struct {
		what  string
		s     lamp.Store
		wicks []int
		want  []int
	}{
		{"the example", example(), numbers(1, 2), numbers(0, 1)}, {"another one", example(), numbers(2, 2), numbers(1, 0)}, {"all wicks", example(), numbers(3, 2), numbers(1, 0)}, {"no cans", gaps(), numbers(1, 1), numbers(0, 0)},
		{"one each evening", three, numbers(1, 1, 1), numbers(1, 1, 1)}, {"two each evening", three, numbers(2, 2, 2), numbers(2, 2, 2)}, {"two in the evening before", three, numbers(1, 2, 1), numbers(1, 2, 1)}, {"as late as they can", changed(func(s *lamp.Store) { s.Nights[0].Burn = span(0, 0) }), numbers(1, 2), numbers(0, 0)},
		{"too large cans", store(30, 200, span(0, 0), night(3, 1, 1, 10, 10), night(3, 1, 1, 10, 10)), numbers(1, 1), numbers(1, 1)}, {"the first of the same sums", store(30, 10, span(10, 10), night(1, 1, 1, 0, 10), night(1, 1, 1, 0, 10)), numbers(1, 1), numbers(0, 1)},
	} {
		if list, many, e := lamp.Deliver(x.s, x.wicks); !slices.Equal(list, x.want) || many != sum(x.want) || e != api.OK {
			t.Errorf("Deliver with %s: %v, %v, %v, not %v", x.what, list, many, e, x.want)
		}
	}
	for _, x := range []struct {
		what  string
		s     lamp.Store
		wicks []int
	}{
		{"a full store", full(), slices.Repeat(numbers(4), 6)}, {"a small tank", store(9, 200, span(9, 9), night(10, 1, 1, 1, 1)), numbers(1)}, {"small cans", store(400, 1, span(0, 400), night(1, 1, 1, 2, 2), night(1, 1, 1, 3, 3)), numbers(1, 1)},
	} {
		if list, many, e := lamp.Deliver(x.s, x.wicks); list != nil || many != 0 || e != api.ErrStuck {
			t.Errorf("Deliver with %s: %v, %v, %v", x.what, list, many, e)
		}
	}
}

// P8.6
func TestTrim(t *testing.T) {
	even := store(40, 1, span(30, 30), night(10, 1, 3, 1, 1), night(10, 1, 3, 1, 1))
	for _, x := range []struct {
		what  string
		s     lamp.Store
		cans  []int
		want  []int
		light int
	}{
		{"the example", example(), numbers(0, 1), numbers(1, 2), 13}, {"another one", example(), numbers(1, 0), numbers(3, 2), 23}, {"more cans than needed", example(), numbers(2, 2), numbers(3, 2), 23},
		{"the first of the same light", even, numbers(0, 0), numbers(1, 2), 30}, {"as much as there is", even, numbers(0, 1), numbers(1, 2), 30}, {"nothing burns", store(1, 1, span(0, 0), night(14, 2, 4, 0, 0)), numbers(0), numbers(4), 56},
		{"less in a long night", store(40, 1, span(20, 20), night(2, 1, 4, 2, 2), night(8, 1, 2, 1, 1)), numbers(0, 0), numbers(1, 2), 18}, {"the wicks that burn less", store(40, 1, span(20, 20), night(5, 1, 2, 2, 2), night(5, 1, 2, 0, 1)), numbers(0, 0), numbers(1, 2), 15}, {"at least two wicks", store(40, 1, span(20, 20), night(5, 2, 4, 1, 1), night(5, 1, 2, 1, 1)), numbers(0, 0), numbers(2, 2), 20},
		{"all that a store can have", store(400, 200, span(400, 400), slices.Repeat([]lamp.Night{night(14, 1, 4, 0, 7)}, 6)...), slices.Repeat(numbers(2), 6), slices.Repeat(numbers(4), 6), 336},
	} {
		if list, light, e := lamp.Trim(x.s, x.cans); !slices.Equal(list, x.want) || light != x.light || e != api.OK {
			t.Errorf("Trim with %s: %v, %v, %v, not %v, %v", x.what, list, light, e, x.want, x.light)
		}
	}
	for _, x := range []struct {
		what string
		s    lamp.Store
		cans []int
	}{
		{"the example", example(), numbers(0, 0)}, {"a full store", full(), slices.Repeat(numbers(2), 6)}, {"too many wicks at least", store(40, 1, span(20, 20), night(7, 3, 4, 0, 1)), numbers(0)},
	} {
		if list, light, e := lamp.Trim(x.s, x.cans); list != nil || light != 0 || e != api.ErrStuck {
			t.Errorf("Trim with %s: %v, %v, %v", x.what, list, light, e)
		}
	}
}

// P8.1 to P8.6: the errors of all calls, in their order.
func TestErrorsInOrder(t *testing.T) {
	good := input{store: example(), plan: usual(), truth: truth(20, 2, 2), dips: dips(dip(0, 16, 20)), cans: numbers(0, 1), wicks: numbers(1, 2)}
	with := func(change func(in *input)) input {
		in := good
		in.store, in.plan, in.dips = cloneStore(in.store), clonePlan(in.plan), slices.Clone(in.dips)
		change(&in)
		return in
	}
	all := func(e api.Errno) []api.Errno { return slices.Repeat([]api.Errno{e}, 7) }
	ok, range0, limit, fail, stuck := api.OK, api.ErrRange, api.ErrLimit, api.ErrFail, api.ErrStuck
	badDips, badPlan := []api.Errno{ok, ok, range0, ok, range0, ok, ok}, []api.Errno{ok, range0, range0, range0, range0, ok, ok}
	spoilt := input{plan: plan(numbers(9), 9), truth: truth(999, 9), dips: slices.Repeat(dips(dip(9, 999, 998)), 7), cans: numbers(9), wicks: numbers(9)}
	for _, x := range []struct {
		what string
		in   input
		want []api.Errno
	}{
		{"what is valid", good, all(ok)}, {"nothing", input{}, all(api.ErrArg)}, {"no store", spoilt, all(api.ErrArg)}, {"too many nights", with(func(in *input) { *in = spoilt; in.store.Nights = make([]lamp.Night, 7) }), all(limit)}, {"a wrong night", with(func(in *input) { *in = spoilt; in.store = example(); in.store.Nights[1].Hours = 15 }), all(api.ErrArg)},
		{"all but the store", with(func(in *input) { *in = spoilt; in.store = example() }), []api.Errno{ok, range0, range0, range0, range0, range0, range0}},
		{"wrong cans and too many dips", with(func(in *input) { in.plan.Cans[0] = 3; in.dips = make([]lamp.Dip, 7) }), badPlan}, {"wrong wicks and a wrong dip", with(func(in *input) { in.plan.Wicks[1] = 3; in.dips[0].Night = 2 }), badPlan},
		{"too many dips", with(func(in *input) { in.dips = make([]lamp.Dip, 7) }), []api.Errno{ok, ok, limit, ok, limit, ok, ok}}, {"too many wrong dips", with(func(in *input) { in.dips = slices.Repeat(dips(dip(2, 1, 0)), 7) }), []api.Errno{ok, ok, limit, ok, limit, ok, ok}}, {"six dips", with(func(in *input) { in.dips = slices.Repeat(dips(dip(0, 16, 20)), 6) }), all(ok)}, {"no dips", with(func(in *input) { in.dips = nil }), all(ok)},
		{"a dip of no night", with(func(in *input) { in.dips = dips(dip(2, 16, 20)) }), badDips}, {"a dip of a night below 0", with(func(in *input) { in.dips = dips(dip(0, 16, 20), dip(-1, 16, 20)) }), badDips}, {"a dip below 0", with(func(in *input) { in.dips = dips(dip(0, -1, 20)) }), badDips}, {"a dip above 400", with(func(in *input) { in.dips = dips(dip(0, 16, 401)) }), badDips}, {"a dip of no oil", with(func(in *input) { in.dips = dips(dip(0, 20, 16)) }), badDips}, {"a dip of 400", with(func(in *input) { in.dips = dips(dip(1, 0, 400), dip(0, 0, 400)) }), all(ok)},
		{"the greatest night of a dip", with(func(in *input) { in.dips = dips(dip(math.MaxInt, 0, 0)) }), badDips}, {"the smallest night of a dip", with(func(in *input) { in.dips = dips(dip(math.MinInt, 0, 0)) }), badDips}, {"all numbers in a dip", with(func(in *input) { in.dips = dips(dip(0, math.MinInt, math.MaxInt)) }), badDips}, {"the greatest numbers in a dip", with(func(in *input) { in.dips = dips(dip(0, math.MaxInt, math.MaxInt)) }), badDips},
		{"a dip that cannot be true, and a wrong one", with(func(in *input) { in.dips = dips(dip(0, 0, 0), dip(0, 5, 4)) }), badDips}, {"dips that contradict each other", with(func(in *input) { in.dips = dips(dip(0, 5, 9), dip(0, 10, 20)) }), []api.Errno{ok, ok, fail, ok, ok, ok, ok}},
		{"a wrong truth", with(func(in *input) { in.truth.Start = 31 }), []api.Errno{ok, range0, ok, ok, ok, ok, ok}}, {"a wrong number to burn", with(func(in *input) { in.truth.Burn = numbers(2, 3) }), []api.Errno{ok, range0, ok, ok, ok, ok, ok}},
		{"no safe plan with the cans", with(func(in *input) { in.cans = numbers(0, 0) }), []api.Errno{ok, ok, ok, ok, ok, ok, stuck}}, {"no safe plan at all", with(func(in *input) { in.store.Cap, in.store.Start = 14, span(10, 14); in.dips = nil }), []api.Errno{ok, range0, ok, ok, ok, stuck, stuck}}, {"wrong cans alone", with(func(in *input) { in.cans = numbers(0, 3) }), []api.Errno{ok, ok, ok, ok, ok, ok, range0}}, {"wrong wicks alone", with(func(in *input) { in.wicks = numbers(4, 1) }), []api.Errno{ok, ok, ok, ok, ok, range0, ok}},
	} {
		results := x.in.all()
		if list := errorsOf(results); !slices.Equal(list, x.want) {
			t.Errorf("%s: %v, not %v", x.what, list, x.want)
		}
		failed(t, results)
	}
}

// P8.1: random truths.
func TestPlayAsTheModel(t *testing.T) {
	dark, back := 0, 0
	eachStore(1000, func(r *rand.Rand, s lamp.Store, p lamp.Plan) {
		x := randomTruth(r, s)
		want := modelPlay(s, p, x)
		got, e := played(s, p, x)
		if e != api.OK || !reflect.DeepEqual(got, want) {
			t.Fatalf("%v: Play of %v, %v: %v, %v, not %v", s, p, x, got, e, want)
		}
		if slices.Contains(want.lit, false) {
			dark++
		}
		if sum(want.back) > 0 {
			back++
		}
	})
	if dark < 200 || dark > 800 || back < 200 || back > 800 {
		t.Errorf("%d truths with dark nights, %d in which oil is given back", dark, back)
	}
}

func played(s lamp.Store, p lamp.Plan, x lamp.Truth) (record, api.Errno) {
	left, back, lit, e := lamp.Play(s, p, x)
	return record{left, back, lit}, e
}

// dipsAsTheModel compares the calls with dips with the second reading.
func dipsAsTheModel(t *testing.T, s lamp.Store, p lamp.Plan, list []lamp.Dip, open solver, seen map[string]int) {
	t.Helper()
	want, many := modelOil(s, p, list, open)
	wide := 0
	for _, x := range want {
		wide += x.Hi - x.Lo + 1
	}
	oil, e := lamp.Oil(s, p, list)
	switch {
	case !slices.Equal(oil, want) || (e == api.OK) != (len(want) > 0) || e != api.OK && e != api.ErrFail:
		t.Fatalf("%v: Oil of %v with %v: %v, %v, not %v", s, p, list, oil, e, want)
	case many < wide:
		seen["gaps"]++
	case many > len(want):
		seen["wide"]++
	}
	left := modelLeave(s, p, list, open)
	if got, e := lamp.Leave(s, p, list); !slices.Equal(got, left) || e != api.OK {
		t.Fatalf("%v: Leave of %v with %v: %v, %v, not %v", s, p, list, got, e, left)
	}
	if len(left) > 0 {
		seen["odd"]++
	}
	if len(left) > 1 {
		seen["several"]++
	}
}

// P8.2, P8.4: all truths, or all numbers of drops, and all sets of dips are tried.
func TestDipsAsTheModel(t *testing.T) {
	for _, x := range []struct {
		s    scale
		many int
		open solver
	}{{small, 1500, byTruths}, {large, 800, byNights}} {
		seen := map[string]int{}
		eachOf(x.s, x.many, func(r *rand.Rand, s lamp.Store, p lamp.Plan) {
			if x.s == small && s.Cap > 100 {
				return
			}
			dipsAsTheModel(t, s, p, someDips(r, s, p, api.MaxLampDips), x.open, seen)
		})
		for _, what := range []string{"gaps", "wide", "odd", "several"} {
			if seen[what] < 10 {
				t.Errorf("only so many of each: %v", seen)
			}
		}
	}
}

// P8.3, P8.5, P8.6: all truths and all plans are tried.
func TestPlansAsTheModel(t *testing.T) {
	seen := map[string]int{}
	eachOf(small, 1000, func(r *rand.Rand, s lamp.Store, p lamp.Plan) {
		dark := modelDark(s, p)
		if list, e := lamp.Dark(s, p); !slices.Equal(list, dark) || e != api.OK || lamp.ProvePlan(s, p) != (len(dark) == 0) {
			t.Fatalf("%v: Dark of %v: %v, %v, not %v", s, p, list, e, dark)
		}
		if len(dark) > 0 && len(dark) < len(s.Nights) {
			seen["dark"]++
		}
		cans := modelDeliver(s, p.Wicks)
		if list, many, e := lamp.Deliver(s, p.Wicks); !slices.Equal(list, cans) || many != sum(cans) || (e == api.OK) != (cans != nil) || e != api.OK && e != api.ErrStuck {
			t.Fatalf("%v: Deliver for %v: %v, %v, %v, not %v", s, p.Wicks, list, many, e, cans)
		}
		if sum(cans) > 0 {
			seen["cans"]++
		}
		wicks, light := modelTrim(s, p.Cans), 0
		if wicks != nil {
			light = lightOf(s, wicks)
		}
		if list, got, e := lamp.Trim(s, p.Cans); !slices.Equal(list, wicks) || got != light || (e == api.OK) != (wicks != nil) || e != api.OK && e != api.ErrStuck {
			t.Fatalf("%v: Trim for %v: %v, %v, %v, not %v", s, p.Cans, list, got, e, wicks)
		}
		if light > 0 && !slices.Equal(wicks, mosts(s)) {
			seen["wicks"]++
		}
	})
	for _, what := range []string{"dark", "cans", "wicks"} {
		if seen[what] < 30 {
			t.Errorf("only so many of each: %v", seen)
		}
	}
}

// mosts has the most wicks of each night.
func mosts(s lamp.Store) []int {
	var list []int
	for _, n := range s.Nights {
		list = append(list, n.Most)
	}
	return list
}

// P1: whatever the arguments are, each call returns, and with an error it has no other result.
func TestAnyArguments(t *testing.T) {
	r := rand.New(rand.NewSource(23))
	some := func() int {
		return []int{math.MinInt, -1, 0, 0, 1, 1, 1, 2, 2, 3, 10, 100, 400, 401, math.MaxInt}[r.Intn(15)]
	}
	list := func(most int) []int {
		var list []int
		for range r.Intn(most + 1) {
			list = append(list, some())
		}
		return list
	}
	valid := 0
	for range 4000 {
		s := randomStore(r, small)
		p := randomPlan(r, s)
		in := input{store: s, plan: p, truth: randomTruth(r, s), dips: someDips(r, s, p, 7), cans: clonePlan(p).Cans, wicks: clonePlan(p).Wicks}
		switch r.Intn(9) {
		case 0:
			in.store.Cap, in.store.Can = some(), some()
		case 1:
			in.store.Start = span(some(), some())
		case 2:
			in.store.Nights = append(in.store.Nights, night(some(), some(), some(), some(), some()))
		case 3:
			in.store.Nights = make([]lamp.Night, r.Intn(8))
		case 4:
			in.plan = plan(list(4), list(4)...)
		case 5:
			in.truth = truth(some(), list(4)...)
		case 6:
			in.dips = append(in.dips, dip(some(), some(), some()))
		case 7:
			in.cans, in.wicks = list(4), list(4)
		}
		results := in.all()
		failed(t, results)
		lamp.ProvePlan(in.store, in.plan)
		if !slices.ContainsFunc(errorsOf(results), func(e api.Errno) bool { return e == api.ErrArg || e == api.ErrLimit || e == api.ErrRange }) {
			valid++
		}
	}
	if valid < 300 || valid > 2000 {
		t.Errorf("%d times all arguments are valid", valid)
	}
}

// R4: arguments are not written to, and results are in memory of their own.
func TestMemory(t *testing.T) {
	in := input{store: example(), plan: plan(numbers(0, 1, 7)[:2], numbers(1, 2, 7)[:2]...), truth: truth(22, numbers(3, 2, 7)[:2]...), dips: dips(dip(0, 5, 9), dip(0, 7, 20), dip(1, 7, 7))[:2], cans: numbers(1, 0, 7)[:2], wicks: numbers(2, 2, 7)[:2]}
	kept := in
	kept.store, kept.plan, kept.truth.Burn, kept.dips, kept.cans, kept.wicks = cloneStore(in.store), clonePlan(in.plan), slices.Clone(in.truth.Burn), slices.Clone(in.dips), slices.Clone(in.cans), slices.Clone(in.wicks)
	for _, other := range [][]lamp.Dip{in.dips, dips(dip(0, 5, 9), dip(0, 10, 20))} {
		in.dips, kept.dips = other, slices.Clone(other)
		first, again := in.all(), in.all()
		lamp.ProvePlan(in.store, in.plan)
		if !reflect.DeepEqual(in, kept) {
			t.Fatalf("arguments became %v", in)
		}
		fill(t, first, again)
		if !reflect.DeepEqual(in, kept) || !reflect.DeepEqual(in.all(), again) {
			t.Error("the arguments, or later results, changed with the results")
		}
	}
	for _, list := range [][]int{in.plan.Cans, in.plan.Wicks, in.truth.Burn, in.cans, in.wicks} {
		if list[:3][2] != 7 {
			t.Errorf("behind an argument there is %v", list[:3])
		}
	}
}

// fill fills all lists, those behind their ends included, one by one; no other one may change.
func fill(t *testing.T, results, want []any) {
	t.Helper()
	for i, x := range results {
		switch list := x.(type) {
		case []int:
			for j := range list[:cap(list)] {
				list[:cap(list)][j] = 99
			}
		case []bool:
			for j := range list[:cap(list)] {
				list[:cap(list)][j] = !list[:cap(list)][j]
			}
		case []lamp.Range:
			for j := range list[:cap(list)] {
				list[:cap(list)][j] = span(99, 99)
			}
		}
		for j, y := range results {
			if j > i && !reflect.DeepEqual(y, want[j]) {
				t.Errorf("the result %d became %v with %d", j, y, i)
			}
		}
	}
}
