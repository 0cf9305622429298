package copies_test

import (
	"math"
	"math/rand"
	"reflect"
	"slices"
	"testing"

	"glister/api"
	"glister/copies"
)

func numbers(list ...int) []int { return list }

func ranges(list ...copies.Range) []copies.Range { return list }

func span(lo, hi int) copies.Range { return copies.Range{Lo: lo, Hi: hi} }

// leg is one that takes from lo to hi hours, with the ranges in which its station is asleep.
func leg(lo, hi int, asleep ...copies.Range) copies.Leg {
	return copies.Leg{Takes: span(lo, hi), Asleep: asleep}
}

func safe(legs ...copies.Leg) copies.Route { return copies.Route{Legs: legs} }

func lossy(legs ...copies.Leg) copies.Route { return copies.Route{Legs: legs, Lossy: true} }

func post(patience int, sends []int, routes ...copies.Route) copies.Post {
	return copies.Post{Sends: sends, Routes: routes, Patience: patience}
}

func entries(list ...copies.Entry) []copies.Entry { return list }

func delivered(number, at int) copies.Entry { return copies.Entry{Number: number, At: at} }

func skipped(number, at int) copies.Entry {
	return copies.Entry{Number: number, At: at, Skipped: true}
}

// example is the post of the chapter.
func example() copies.Post {
	return post(5, numbers(0, 2), lossy(leg(1, 3)), safe(leg(1, 1, span(1, 4)), leg(1, 2)))
}

// full has as much of everything as a post can have.
func full() copies.Post {
	l := leg(0, 6, span(0, 30), span(0, 30))
	return post(30, numbers(27, 28, 29, 30), lossy(l, l, l), lossy(l, l, l), safe(l, l, l))
}

// changed is the example after a change.
func changed(change func(p *copies.Post)) copies.Post {
	p := example()
	change(&p)
	return p
}

// input has the arguments of all calls.
type input struct {
	post          copies.Post
	truth         copies.Truth
	number, route int
	entries       []copies.Entry
}

// all has the results of each call that has an error.
func (in input) all() []any {
	e0 := copies.CheckPost(in.post)
	journal, e1 := copies.Play(in.post, in.truth)
	hours, e2 := copies.Hours(in.post, in.number, in.route)
	spans, e3 := copies.Spans(in.post)
	surely, e4 := copies.Surely(in.post)
	least, e5 := copies.Least(in.post)
	truth, e6 := copies.Explain(in.post, in.entries)
	odd, e7 := copies.Odd(in.post, in.entries)
	return []any{e0, journal, e1, hours, e2, spans, e3, surely, e4, least, e5, truth, e6, odd, e7}
}

// errorsOf picks the errors from the results of all: CheckPost, Play, Hours, Spans, Surely, Least, Explain, Odd.
func errorsOf(results []any) []api.Errno {
	var list []api.Errno
	for _, x := range results {
		if e, ok := x.(api.Errno); ok {
			list = append(list, e)
		}
	}
	return list
}

// failed checks that a call with an error has no other result.
func failed(t *testing.T, results []any) {
	t.Helper()
	for i, x := range results {
		e, ok := x.(api.Errno)
		if !ok || e == api.OK || i == 0 {
			continue
		}
		if v := reflect.ValueOf(results[i-1]); v.Kind() == reflect.Slice && v.Len() > 0 || v.Kind() == reflect.Int && v.Int() != 0 {
			t.Errorf("%v with %v in %v", v, e, results)
		}
	}
}

// P5.1: which numbers a post can have.
func TestCheckPost(t *testing.T) {
	sends := func(list ...int) copies.Post { return changed(func(p *copies.Post) { p.Sends = list }) }
	patience := func(n int) copies.Post { return changed(func(p *copies.Post) { p.Patience = n }) }
	routes := func(list ...copies.Route) copies.Post { return changed(func(p *copies.Post) { p.Routes = list }) }
	legs := func(list ...copies.Leg) copies.Post {
		return changed(func(p *copies.Post) { p.Routes[1].Legs = list })
	}
	night := func(list ...copies.Range) copies.Post {
		return changed(func(p *copies.Post) { p.Routes[1].Legs[1].Asleep = list })
	}
	l := leg(0, 0)
	for _, x := range []struct {
		what string
		p    copies.Post
		want api.Errno
	}{
		{"the example", example(), api.OK}, {"a full post", full(), api.OK}, {"nothing", copies.Post{}, api.ErrArg},
		{"no sends", sends(), api.ErrArg}, {"one send", sends(30), api.OK}, {"a send below 0", sends(-1, 2), api.ErrArg}, {"a late send", sends(0, 31), api.ErrArg}, {"equal sends", sends(0, 2, 2), api.ErrArg}, {"falling sends", sends(2, 1), api.ErrArg}, {"sends that fall at last", sends(0, 5, 4), api.ErrArg}, {"four sends", sends(0, 1, 29, 30), api.OK},
		{"five sends", sends(0, 1, 2, 3, 4), api.ErrLimit}, {"five equal sends", sends(0, 0, 0, 0, 0), api.ErrLimit}, {"the smallest send", sends(math.MinInt), api.ErrArg}, {"the greatest send", sends(math.MaxInt), api.ErrArg},
		{"no patience", patience(0), api.OK}, {"patience below 0", patience(-1), api.ErrArg}, {"the greatest patience", patience(30), api.OK}, {"more patience", patience(31), api.ErrArg}, {"endless patience", patience(math.MaxInt), api.ErrArg}, {"the smallest patience", patience(math.MinInt), api.ErrArg},
		{"no routes", routes(), api.ErrArg}, {"three routes", routes(safe(l), safe(l), lossy(l)), api.OK}, {"four routes", routes(safe(l), safe(l), safe(l), safe(l)), api.ErrLimit}, {"four routes without legs", routes(make([]copies.Route, 4)...), api.ErrLimit},
		{"no legs", legs(), api.ErrArg}, {"a lossy route without legs", routes(safe(l), lossy()), api.ErrArg}, {"three legs", legs(l, l, l), api.OK}, {"four legs", legs(l, l, l, l), api.ErrLimit}, {"four legs of a post without sends", copies.Post{Routes: []copies.Route{safe(), safe(l, l, l, l)}}, api.ErrLimit},
		{"a leg of no hours", legs(l), api.OK}, {"the longest leg", legs(leg(6, 6)), api.OK}, {"a longer leg", legs(leg(6, 7)), api.ErrArg}, {"a leg of hours below 0", legs(leg(-1, 6)), api.ErrArg}, {"a range of no hours", legs(l, leg(3, 2)), api.ErrArg}, {"ranges of all hours", legs(leg(0, 6)), api.OK},
		{"the greatest numbers", legs(leg(math.MaxInt, math.MaxInt)), api.ErrArg}, {"all numbers", legs(leg(math.MinInt, math.MaxInt)), api.ErrArg}, {"both ends too great", legs(leg(7, 7)), api.ErrArg},
		{"nobody asleep", night(), api.OK}, {"two ranges", night(span(30, 30), span(0, 0)), api.OK}, {"two equal ranges", night(span(0, 30), span(0, 30)), api.OK}, {"three ranges", night(span(0, 1), span(2, 3), span(4, 5)), api.ErrLimit}, {"three wrong ranges", night(span(1, 0), span(2, 3), span(4, 5)), api.ErrLimit},
		{"asleep after the end", night(span(0, 31)), api.ErrArg}, {"asleep before 0", night(span(-1, 3)), api.ErrArg}, {"asleep in no hour", night(span(1, 2), span(5, 4)), api.ErrArg}, {"always asleep", night(span(math.MinInt, math.MaxInt)), api.ErrArg}, {"asleep late", night(span(31, 31)), api.ErrArg},
	} {
		if e := copies.CheckPost(x.p); e != x.want {
			t.Errorf("CheckPost of %s: %v, not %v", x.what, e, x.want)
		}
	}
}

// P5.2: how copies wait.
func TestHours(t *testing.T) {
	at := func(send int, r copies.Route) copies.Post { return post(0, numbers(send), r) }
	for _, x := range []struct {
		p             copies.Post
		number, route int
		want          []int
	}{
		{example(), 0, 0, numbers(1, 2, 3)}, {example(), 0, 1, numbers(6, 7)}, {example(), 1, 0, numbers(3, 4, 5)}, {example(), 1, 1, numbers(6, 7)},
		{at(4, safe(leg(0, 0))), 0, 0, numbers(4)}, {at(30, safe(leg(0, 6), leg(0, 6), leg(0, 6))), 0, 0, numbers(30, 31, 32, 33, 34, 35, 36, 37, 38, 39, 40, 41, 42, 43, 44, 45, 46, 47, 48)},
		// The last station is asleep, and so is one to which a copy comes at once.
		{at(0, safe(leg(1, 4, span(2, 3)))), 0, 0, numbers(1, 4)}, {at(3, safe(leg(0, 0, span(3, 5)))), 0, 0, numbers(6)},
		// Only the hour of coming counts, with both ends of a range.
		{at(0, safe(leg(6, 6, span(1, 5)))), 0, 0, numbers(6)}, {at(0, safe(leg(5, 5, span(5, 5)))), 0, 0, numbers(6)}, {at(0, safe(leg(4, 4, span(5, 5)))), 0, 0, numbers(4)},
		// From one range into the other one, in whatever order they are.
		{at(0, safe(leg(1, 1, span(1, 2), span(3, 4)))), 0, 0, numbers(5)}, {at(0, safe(leg(1, 1, span(3, 4), span(1, 2)))), 0, 0, numbers(5)}, {at(0, safe(leg(1, 1, span(2, 6), span(0, 3)))), 0, 0, numbers(7)}, {at(0, safe(leg(1, 4, span(4, 4), span(1, 2)))), 0, 0, numbers(3, 5)},
		// It begins the next leg when it goes on.
		{at(0, safe(leg(1, 1, span(1, 4)), leg(2, 2, span(3, 3), span(7, 8)), leg(0, 1))), 0, 0, numbers(9, 10)},
		// Asleep to the last hour, and hours that are not all between the first one and the last one.
		{full(), 3, 2, upFrom(31, 49)}, {at(30, safe(leg(0, 0, span(0, 30)), leg(6, 6), leg(6, 6))), 0, 0, numbers(43)}, {at(0, safe(leg(0, 6, span(1, 1), span(3, 5)))), 0, 0, numbers(0, 2, 6)},
	} {
		if list, e := copies.Hours(x.p, x.number, x.route); !slices.Equal(list, x.want) || e != api.OK {
			t.Errorf("%v: Hours of %d by %d: %v, %v, not %v", x.p, x.number, x.route, list, e, x.want)
		}
	}
}

// upFrom lists the numbers from the first one that are below the end.
func upFrom(first, end int) []int {
	var list []int
	for n := first; n < end; n++ {
		list = append(list, n)
	}
	return list
}

// P5.1: what becomes of dispatches in a truth.
func TestPlay(t *testing.T) {
	two := post(4, numbers(0, 1, 3), lossy(leg(0, 6)), lossy(leg(0, 6)))
	for _, x := range []struct {
		p     copies.Post
		truth copies.Truth
		want  []copies.Entry
	}{
		{example(), copies.Truth{{nil, {1, 1}}, {nil, {1, 2}}}, entries(skipped(0, 5), delivered(1, 7))}, {example(), copies.Truth{{{2}, {1, 1}}, {{3}, {1, 2}}}, entries(delivered(0, 2), delivered(1, 5))},
		// The first copy counts, by whichever route.
		{two, copies.Truth{{{3}, {2}}, {{2}, {3}}, {{1}, {}}}, entries(delivered(0, 2), delivered(1, 3), delivered(2, 4))},
		// At the deadline, and after it.
		{two, copies.Truth{{{4}, {6}}, {{5}, nil}, {nil, nil}}, entries(delivered(0, 4), skipped(1, 5), skipped(2, 7))}, {two, copies.Truth{{{5}, {6}}, {{4}, nil}, {nil, {4}}}, entries(skipped(0, 4), delivered(1, 5), delivered(2, 7))},
		// A dispatch waits for the one before it, whether that one is delivered or skipped.
		{two, copies.Truth{{nil, nil}, {{0}, nil}, {nil, {0}}}, entries(skipped(0, 4), delivered(1, 4), delivered(2, 4))}, {two, copies.Truth{{{4}, nil}, {{1}, nil}, {nil, nil}}, entries(delivered(0, 4), delivered(1, 4), skipped(2, 7))},
		{post(0, numbers(0, 1, 2), safe(leg(0, 1))), copies.Truth{{{0}}, {{1}}, {{0}}}, entries(delivered(0, 0), skipped(1, 1), delivered(2, 2))},
		{full(), copies.Truth{{nil, nil, {6, 6, 6}}, {nil, nil, {6, 0, 0}}, {{0, 0, 0}, nil, {6, 6, 6}}, {nil, {0, 0, 1}, {6, 6, 6}}}, entries(delivered(0, 45), delivered(1, 45), delivered(2, 45), delivered(3, 45))},
	} {
		journal, e := copies.Play(x.p, x.truth)
		if !slices.Equal(journal, x.want) || e != api.OK {
			t.Errorf("%v: Play of %v: %v, %v, not %v", x.p, x.truth, journal, e, x.want)
		}
		if !copies.ProveTruth(x.p, x.truth, x.want) || !copies.ProveTruth(x.p, x.truth, nil) {
			t.Errorf("%v: %v does not prove %v", x.p, x.truth, x.want)
		}
	}
}

// P5.1, P5.5: truths that the post cannot have.
func TestTruths(t *testing.T) {
	for _, x := range []struct {
		what  string
		truth copies.Truth
		want  api.Errno
	}{
		{"no lists", nil, api.ErrRange}, {"one list", copies.Truth{{{1}, {1, 1}}}, api.ErrRange}, {"three lists", copies.Truth{{{1}, {1, 1}}, {{1}, {1, 1}}, {{1}, {1, 1}}}, api.ErrRange},
		{"no routes", copies.Truth{{{1}, {1, 1}}, nil}, api.ErrRange}, {"one route", copies.Truth{{{1}, {1, 1}}, {{1}}}, api.ErrRange}, {"three routes", copies.Truth{{{1}, {1, 1}, {1}}, {{1}, {1, 1}}}, api.ErrRange},
		{"a lossy route", copies.Truth{{nil, {1, 1}}, {{}, {1, 1}}}, api.OK}, {"a route that is not", copies.Truth{{{1}, nil}, {{1}, {1, 1}}}, api.ErrRange}, {"a number too few", copies.Truth{{{1}, {1}}, {{1}, {1, 1}}}, api.ErrRange}, {"a number too many", copies.Truth{{{1}, {1, 1}}, {{1}, {1, 1, 1}}}, api.ErrRange}, {"a number too many by a lossy route", copies.Truth{{{1, 1}, {1, 1}}, {{1}, {1, 1}}}, api.ErrRange},
		{"hours at the ends", copies.Truth{{{1}, {1, 1}}, {{3}, {1, 2}}}, api.OK}, {"too few hours", copies.Truth{{{1}, {1, 1}}, {{0}, {1, 2}}}, api.ErrFalse}, {"too many hours", copies.Truth{{{4}, {1, 1}}, {{3}, {1, 2}}}, api.ErrFalse}, {"too many hours of the last leg", copies.Truth{{{1}, {1, 1}}, {{3}, {1, 3}}}, api.ErrFalse}, {"hours of another leg", copies.Truth{{{1}, {2, 1}}, {{3}, {1, 2}}}, api.ErrFalse},
		{"the greatest number", copies.Truth{{{math.MaxInt}, {1, 1}}, {{3}, {1, 2}}}, api.ErrFalse}, {"the smallest number", copies.Truth{{{1}, {1, math.MinInt}}, {{3}, {1, 2}}}, api.ErrFalse}, {"wrong hours, then a wrong list", copies.Truth{{{9}, {9, 9}}, {{3}, {1}}}, api.ErrRange}, {"wrong hours, then no list", copies.Truth{{{9}, {9, 9}}}, api.ErrRange},
	} {
		journal, e := copies.Play(example(), x.truth)
		if e != x.want || e != api.OK && journal != nil {
			t.Errorf("Play with %s: %v, %v, not %v", x.what, journal, e, x.want)
		}
		if copies.ProveTruth(example(), x.truth, nil) != (x.want == api.OK) {
			t.Errorf("ProveTruth with %s", x.what)
		}
	}
}

// P5.3, P5.4
func TestSpansSurelyAndLeast(t *testing.T) {
	day := leg(0, 6, span(0, 30))
	for _, x := range []struct {
		what   string
		p      copies.Post
		spans  []copies.Range
		surely []int
		least  int
		e      api.Errno
	}{
		{"the example", example(), ranges(span(1, 5), span(3, 7)), numbers(1), 7, api.OK},
		{"more patience", changed(func(p *copies.Post) { p.Patience = 7 }), ranges(span(1, 7), span(3, 7)), numbers(0, 1), 7, api.OK},
		{"lossy routes alone", changed(func(p *copies.Post) { p.Routes[1].Lossy = true }), ranges(span(1, 5), span(3, 7)), nil, 0, api.ErrFail},
		{"two routes, of which one is never later", post(2, numbers(1), safe(leg(0, 6)), safe(leg(2, 2))), ranges(span(1, 3)), numbers(0), 2, api.OK},
		{"a lossy route that is never later", post(2, numbers(1), safe(leg(0, 6)), lossy(leg(2, 2))), ranges(span(1, 3)), nil, 6, api.OK},
		{"no patience", post(0, numbers(0, 5), safe(leg(0, 0))), ranges(span(0, 0), span(5, 5)), numbers(0, 1), 0, api.OK},
		{"too late in each truth", post(3, numbers(0, 5), safe(leg(4, 6))), ranges(span(3, 3), span(8, 8)), nil, 6, api.OK},
		{"a dispatch after a late one", post(9, numbers(0, 1), safe(leg(1, 1, span(0, 6)))), ranges(span(7, 7), span(7, 7)), numbers(0, 1), 7, api.OK},
		{"a late dispatch, and one behind the night", post(2, numbers(0, 6), safe(leg(0, 1, span(0, 6)))), ranges(span(2, 2), span(7, 7)), numbers(1), 7, api.OK},
		{"the greatest patience", post(0, numbers(1), safe(day)), ranges(span(1, 1)), nil, 30, api.OK}, {"a greater one", post(30, numbers(0), safe(day)), ranges(span(30, 30)), nil, 0, api.ErrFail},
		{"a full post", full(), ranges(span(31, 45), span(31, 46), span(31, 47), span(31, 48)), numbers(0, 1, 2, 3), 18, api.OK},
	} {
		if list, e := copies.Spans(x.p); !slices.Equal(list, x.spans) || e != api.OK {
			t.Errorf("Spans with %s: %v, %v, not %v", x.what, list, e, x.spans)
		}
		if list, e := copies.Surely(x.p); !slices.Equal(list, x.surely) || e != api.OK {
			t.Errorf("Surely with %s: %v, %v, not %v", x.what, list, e, x.surely)
		}
		if n, e := copies.Least(x.p); n != x.least || e != x.e {
			t.Errorf("Least with %s: %d, %v, not %d, %v", x.what, n, e, x.least, x.e)
		}
	}
}

// P5.5, P5.6
func TestExplainAndOdd(t *testing.T) {
	quick := lossy(leg(0, 6), leg(0, 6), leg(0, 6))
	wide := post(30, numbers(0, 1, 2, 3), quick, quick, quick)
	for _, x := range []struct {
		p       copies.Post
		entries []copies.Entry
		odd     []int
	}{
		{example(), nil, nil}, {example(), entries(delivered(0, 2), delivered(1, 2)), numbers(1)}, {example(), entries(skipped(0, 5)), nil}, {example(), entries(skipped(0, 5), skipped(0, 5), delivered(1, 7)), nil},
		// 1 is delivered when 0 is finished, at 5, or later.
		{example(), entries(skipped(0, 5), delivered(1, 5)), nil}, {example(), entries(skipped(0, 5), delivered(1, 4)), numbers(0)}, {example(), entries(delivered(1, 4), skipped(0, 5)), numbers(0)}, {example(), entries(delivered(1, 4), delivered(0, 3)), nil},
		// Of two that contradict each other the first one is left out; of three two, if these agree.
		{example(), entries(delivered(0, 2), skipped(0, 5)), numbers(0)}, {example(), entries(delivered(0, 2), skipped(0, 5), delivered(0, 2)), numbers(1)}, {example(), entries(delivered(0, 2), delivered(1, 3), delivered(0, 3), delivered(1, 4)), numbers(0, 1)}, {example(), entries(delivered(0, 3), delivered(1, 3), delivered(1, 4), delivered(0, 2)), numbers(0, 1)},
		// What no truth has: another hour, 5 as that of a delivery, a dispatch that is surely delivered.
		{example(), entries(delivered(0, 4)), numbers(0)}, {example(), entries(delivered(0, 5)), numbers(0)}, {example(), entries(skipped(1, 7)), numbers(0)}, {example(), entries(delivered(1, 8), delivered(0, 1), skipped(0, 4)), numbers(0, 2)},
		{example(), entries(delivered(0, 0), delivered(0, 100), skipped(1, 0), skipped(1, 100), skipped(0, 6), skipped(0, 4), delivered(1, 2), skipped(1, 7)), upTo(8)},
		// 1 is at 6 if its copy by the route 0 is lost, but 0 is not, with its own by the route 1.
		{example(), entries(delivered(1, 6), delivered(0, 1)), nil}, {example(), entries(delivered(1, 6), delivered(0, 6)), numbers(1)},
		// A route that is not lossy comes at 3: nothing can be later.
		{post(9, numbers(0), safe(leg(3, 3)), lossy(leg(0, 6))), entries(delivered(0, 4)), numbers(0)}, {post(9, numbers(0), safe(leg(3, 3)), lossy(leg(0, 6))), entries(delivered(0, 2)), nil}, {post(9, numbers(0), safe(leg(3, 3)), safe(leg(5, 6))), entries(delivered(0, 3)), nil}, {post(9, numbers(0), lossy(leg(3, 3)), safe(leg(5, 6))), entries(delivered(0, 6)), nil},
		// Skipped because it is late, and not lost.
		{post(3, numbers(0), safe(leg(3, 4))), entries(skipped(0, 3)), nil}, {post(3, numbers(0), safe(leg(3, 4))), entries(delivered(0, 3)), nil}, {post(3, numbers(0), safe(leg(3, 3))), entries(skipped(0, 3)), numbers(0)}, {post(3, numbers(0), safe(leg(4, 4))), entries(delivered(0, 3), skipped(0, 3)), numbers(0)},
		// As many truths as a post can have, and nothing that any of them has.
		{wide, entries(delivered(3, 34), delivered(3, 35), delivered(3, 36), delivered(3, 37), delivered(3, 38), delivered(3, 39), delivered(3, 40), skipped(3, 34)), upTo(8)},
		{full(), entries(delivered(0, 45), delivered(1, 45), delivered(2, 45), delivered(3, 48)), nil}, {full(), entries(delivered(0, 45), delivered(1, 44), delivered(2, 46), delivered(3, 44)), numbers(0, 2)},
	} {
		truth, e := copies.Explain(x.p, x.entries)
		want := api.ErrFail
		if len(x.odd) == 0 {
			want = api.OK
		}
		if e != want || copies.ProveTruth(x.p, truth, x.entries) != (want == api.OK) || e != api.OK && truth != nil {
			t.Errorf("%v: Explain of %v: %v, %v, not %v", x.p, x.entries, truth, e, want)
		}
		if list, e := copies.Odd(x.p, x.entries); !slices.Equal(list, x.odd) || e != api.OK {
			t.Errorf("%v: Odd of %v: %v, %v, not %v", x.p, x.entries, list, e, x.odd)
		}
	}
	truth, _ := copies.Explain(example(), entries(skipped(0, 5)))
	if len(truth) != 2 || len(truth[0]) != 2 || len(truth[0][0]) > 0 {
		t.Errorf("Explain of a dispatch that is skipped: %v", truth)
	}
}

// P5.5
func TestProveTruth(t *testing.T) {
	truth := copies.Truth{{nil, {1, 1}}, {nil, {1, 2}}}
	bad := changed(func(p *copies.Post) { p.Patience = -1 })
	long := changed(func(p *copies.Post) { p.Sends = upTo(5) })
	for _, x := range []struct {
		what    string
		p       copies.Post
		truth   copies.Truth
		entries []copies.Entry
		want    bool
	}{
		{"all entries", example(), truth, entries(skipped(0, 5), delivered(1, 7)), true}, {"no entries", example(), truth, nil, true}, {"an entry twice", example(), truth, entries(delivered(1, 7), delivered(1, 7)), true},
		{"another hour", example(), truth, entries(skipped(0, 5), delivered(1, 6)), false}, {"delivered, not skipped", example(), truth, entries(delivered(0, 5)), false}, {"skipped, not delivered", example(), truth, entries(skipped(1, 7)), false}, {"another dispatch", example(), truth, entries(skipped(1, 5)), false},
		{"a false truth", example(), copies.Truth{{nil, {1, 1}}, {nil, {1, 3}}}, nil, false}, {"a truth of another post", example(), copies.Truth{{nil, {1, 1}}}, nil, false}, {"no truth", example(), nil, nil, false},
		{"no post", bad, truth, nil, false}, {"a long post", long, truth, nil, false}, {"nothing", copies.Post{}, nil, nil, false},
		{"an entry of no dispatch", example(), truth, entries(delivered(2, 7)), false}, {"an entry below 0", example(), truth, entries(delivered(-1, 7)), false}, {"a late entry", example(), truth, entries(delivered(1, 101)), false}, {"an early entry", example(), truth, entries(delivered(1, -1)), false},
		{"eight entries", example(), truth, slices.Repeat(entries(delivered(1, 7)), 8), true}, {"nine entries", example(), truth, slices.Repeat(entries(delivered(1, 7)), 9), false},
	} {
		if ok := copies.ProveTruth(x.p, x.truth, x.entries); ok != x.want {
			t.Errorf("ProveTruth with %s: %v", x.what, ok)
		}
	}
}

// P5.1 to P5.6: the errors of all calls, in their order.
func TestErrorsInOrder(t *testing.T) {
	good := input{post: example(), truth: copies.Truth{{nil, {1, 1}}, {nil, {1, 2}}}, number: 1, route: 1, entries: entries(skipped(0, 5))}
	with := func(change func(in *input)) input {
		in := good
		in.post = clonePost(in.post)
		change(&in)
		return in
	}
	spoilt := input{truth: copies.Truth{{{9}}}, number: 9, route: 9, entries: slices.Repeat(entries(delivered(9, 999)), 9)}
	none, noRange, noLimit, fails := api.OK, api.ErrRange, api.ErrLimit, api.ErrFail
	for _, x := range []struct {
		what string
		in   input
		want []api.Errno
	}{
		{"what is valid", good, []api.Errno{none, none, none, none, none, none, none, none}},
		{"no post", spoilt, slices.Repeat([]api.Errno{api.ErrArg}, 8)},
		{"too many sends", with(func(in *input) { *in = spoilt; in.post.Sends = make([]int, 5) }), slices.Repeat([]api.Errno{noLimit}, 8)},
		{"too many routes", with(func(in *input) { *in = spoilt; in.post.Routes = make([]copies.Route, 4) }), slices.Repeat([]api.Errno{noLimit}, 8)},
		{"too many legs", with(func(in *input) { in.post.Routes[0].Legs = make([]copies.Leg, 4); in.post.Patience = 99 }), slices.Repeat([]api.Errno{noLimit}, 8)},
		{"too many ranges", with(func(in *input) { in.post.Routes[1].Legs[1].Asleep = make([]copies.Range, 3); in.post.Sends[0] = 9 }), slices.Repeat([]api.Errno{noLimit}, 8)},
		{"a wrong Patience", with(func(in *input) { in.post.Patience = 31 }), slices.Repeat([]api.Errno{api.ErrArg}, 8)},
		{"all but the post", with(func(in *input) { *in = spoilt; in.post = example() }), []api.Errno{none, noRange, noRange, none, none, none, noLimit, noLimit}},
		{"no dispatch", with(func(in *input) { in.number = 2 }), []api.Errno{none, none, noRange, none, none, none, none, none}},
		{"a dispatch below 0", with(func(in *input) { in.number = -1 }), []api.Errno{none, none, noRange, none, none, none, none, none}},
		{"no route", with(func(in *input) { in.route = 2 }), []api.Errno{none, none, noRange, none, none, none, none, none}},
		{"a route below 0", with(func(in *input) { in.route = -1 }), []api.Errno{none, none, noRange, none, none, none, none, none}},
		{"no list", with(func(in *input) { in.truth = nil }), []api.Errno{none, noRange, none, none, none, none, none, none}},
		{"a copy lost that cannot be", with(func(in *input) { in.truth = copies.Truth{{nil, nil}, {nil, {1, 2}}} }), []api.Errno{none, noRange, none, none, none, none, none, none}},
		{"too many hours", with(func(in *input) { in.truth = copies.Truth{{nil, {1, 1}}, {nil, {1, 3}}} }), []api.Errno{none, api.ErrFalse, none, none, none, none, none, none}},
		{"nine entries", with(func(in *input) { in.entries = slices.Repeat(entries(delivered(9, 999)), 9) }), []api.Errno{none, none, none, none, none, none, noLimit, noLimit}},
		{"eight entries", with(func(in *input) { in.entries = slices.Repeat(entries(skipped(0, 5)), 8) }), []api.Errno{none, none, none, none, none, none, none, none}},
		{"an entry of no dispatch", with(func(in *input) { in.entries = entries(skipped(0, 5), skipped(2, 5)) }), []api.Errno{none, none, none, none, none, none, noRange, noRange}},
		{"an entry below 0", with(func(in *input) { in.entries = entries(skipped(-1, 5)) }), []api.Errno{none, none, none, none, none, none, noRange, noRange}},
		{"an early entry", with(func(in *input) { in.entries = entries(skipped(0, -1)) }), []api.Errno{none, none, none, none, none, none, noRange, noRange}},
		{"a late entry", with(func(in *input) { in.entries = entries(delivered(0, 101), skipped(0, 5)) }), []api.Errno{none, none, none, none, none, none, noRange, noRange}},
		{"the latest entry", with(func(in *input) { in.entries = entries(delivered(0, 100)) }), []api.Errno{none, none, none, none, none, none, fails, none}},
		{"the earliest entry", with(func(in *input) { in.entries = entries(delivered(0, 0)) }), []api.Errno{none, none, none, none, none, none, fails, none}},
		{"a late copy", with(func(in *input) { in.post.Routes[1].Legs[0].Asleep[0].Hi = 30 }), []api.Errno{none, none, none, none, none, fails, none, none}},
		{"all copies lost", with(func(in *input) { in.post.Routes[1].Lossy = true }), []api.Errno{none, none, none, none, none, fails, none, none}},
		{"the greatest numbers", with(func(in *input) {
			in.truth, in.number, in.route, in.entries = copies.Truth{{nil, {1, math.MaxInt}}, {nil, {1, 2}}}, math.MaxInt, math.MaxInt, entries(delivered(math.MaxInt, math.MaxInt))
		}), []api.Errno{none, api.ErrFalse, noRange, none, none, none, noRange, noRange}},
		{"the smallest numbers", with(func(in *input) {
			in.truth, in.number, in.route, in.entries = copies.Truth{{nil, {1, math.MinInt}}, {nil, {1, 2}}}, math.MinInt, math.MinInt, entries(skipped(math.MinInt, math.MinInt))
		}), []api.Errno{none, api.ErrFalse, noRange, none, none, none, noRange, noRange}},
	} {
		results := x.in.all()
		if list := errorsOf(results); !slices.Equal(list, x.want) {
			t.Errorf("%s: %v, not %v", x.what, list, x.want)
		}
		failed(t, results)
	}
}

// P5.2: the hours of all numbers that the legs can take.
func TestHoursAsTheModel(t *testing.T) {
	gaps := 0
	eachPost(300, func(r *rand.Rand, p copies.Post) {
		number, route := r.Intn(len(p.Sends)), r.Intn(len(p.Routes))
		var want []int
		for _, takes := range waysOf(p.Routes[route]) {
			if len(takes) > 0 {
				want = append(want, modelHour(p.Routes[route], p.Sends[number], takes))
			}
		}
		slices.Sort(want)
		want = slices.Compact(want)
		if list, e := copies.Hours(p, number, route); !slices.Equal(list, want) || e != api.OK {
			t.Fatalf("%v: Hours of %d by %d: %v, %v, not %v", p, number, route, list, e, want)
		}
		if want[len(want)-1]-want[0] >= len(want) {
			gaps++
		}
	})
	if gaps < 20 {
		t.Errorf("only %d with gaps", gaps)
	}
}

// P5.1: random truths.
func TestPlayAsTheModel(t *testing.T) {
	eachPost(1000, func(r *rand.Rand, p copies.Post) {
		for range 3 {
			truth := randomTruth(r, p)
			want := modelJournal(p, truth)
			if journal, e := copies.Play(p, truth); !slices.Equal(journal, want) || e != api.OK {
				t.Fatalf("%v: Play of %v: %v, %v, not %v", p, truth, journal, e, want)
			}
		}
	})
}

// P5.3: all truths are tried.
func TestSpansAsTheModel(t *testing.T) {
	some, wide := 0, 0
	eachSmall(800, func(r *rand.Rand, p copies.Post) {
		journals := journalsOf(p)
		spans, surely := modelSpans(journals), modelSurely(journals)
		if list, e := copies.Spans(p); !slices.Equal(list, spans) || e != api.OK {
			t.Fatalf("%v: Spans %v, %v, not %v", p, list, e, spans)
		}
		if list, e := copies.Surely(p); !slices.Equal(list, surely) || e != api.OK {
			t.Fatalf("%v: Surely %v, %v, not %v", p, list, e, surely)
		}
		if len(surely) > 0 && len(surely) < len(p.Sends) {
			some++
		}
		if slices.ContainsFunc(spans, func(s copies.Range) bool { return s.Lo < s.Hi }) {
			wide++
		}
	})
	if some < 20 || wide < 100 {
		t.Errorf("only %d posts with some surely delivered, %d with wide spans", some, wide)
	}
}

// P5.4: all truths are tried with each patience.
func TestLeastAsTheModel(t *testing.T) {
	found, none := 0, 0
	eachSmall(60, func(r *rand.Rand, p copies.Post) {
		if manyTruths(p) > 200 {
			return
		}
		want := modelLeast(p)
		n, e := copies.Least(p)
		if want < 0 && (n != 0 || e != api.ErrFail) || want >= 0 && (n != want || e != api.OK) {
			t.Fatalf("%v: Least %d, %v, not %d", p, n, e, want)
		}
		if want < 0 {
			none++
		} else {
			found++
		}
	})
	if found < 15 || none < 3 {
		t.Errorf("only %d with a smallest patience, %d without", found, none)
	}
}

// P5.5, P5.6: all truths and all sets are tried.
func TestEntriesAsTheModel(t *testing.T) {
	lengths := map[int]int{}
	eachSmall(200, func(r *rand.Rand, p copies.Post) {
		journals := journalsOf(p)
		for range 5 {
			list := randomEntries(r, p, api.MaxCopiesEntries)
			want := modelOdd(journals, list)
			lengths[len(want)]++
			if odd, e := copies.Odd(p, list); !slices.Equal(odd, want) || e != api.OK {
				t.Fatalf("%v: Odd of %v: %v, %v, not %v", p, list, odd, e, want)
			}
			truth, e := copies.Explain(p, list)
			if len(want) > 0 {
				if truth != nil || e != api.ErrFail {
					t.Fatalf("%v: Explain of %v: %v, %v", p, list, truth, e)
				}
				continue
			}
			if e != api.OK || !copies.ProveTruth(p, truth, list) || !explained([][]copies.Entry{modelJournal(p, truth)}, list) {
				t.Fatalf("%v: Explain of %v: %v, %v", p, list, truth, e)
			}
		}
	})
	for many := range 4 {
		if lengths[many] < 30 {
			t.Errorf("only so many smallest sets of each length: %v", lengths)
		}
	}
}

// P5.5: ProveTruth with random entries.
func TestProveTruthAsTheModel(t *testing.T) {
	counts := map[bool]int{}
	eachPost(2000, func(r *rand.Rand, p copies.Post) {
		truth := randomTruth(r, p)
		list := modelJournal(p, truth)[:r.Intn(len(p.Sends)+1)]
		if r.Intn(2) == 0 {
			list = append(list, randomEntries(r, p, 2)...)
		}
		want := explained([][]copies.Entry{modelJournal(p, truth)}, list)
		counts[want]++
		if ok := copies.ProveTruth(p, truth, list); ok != want {
			t.Fatalf("%v: ProveTruth of %v with %v: %v", p, truth, list, ok)
		}
	})
	if counts[true] < 300 || counts[false] < 200 {
		t.Errorf("only so many truths with and without all entries: %v", counts)
	}
}

// P1: whatever the arguments are, each call returns, and with an error it has no other result.
func TestAnyArguments(t *testing.T) {
	r := rand.New(rand.NewSource(13))
	some := func() int {
		return []int{math.MinInt, -1, 0, 0, 1, 1, 2, 3, 5, 6, 7, 30, 31, math.MaxInt}[r.Intn(14)]
	}
	anyRange := func() copies.Range { return span(some(), some()) }
	anyRoute := func() copies.Route {
		route := copies.Route{Lossy: r.Intn(2) == 0, Legs: make([]copies.Leg, r.Intn(5))}
		for i := range route.Legs {
			route.Legs[i].Takes = anyRange()
			for range r.Intn(4) {
				route.Legs[i].Asleep = append(route.Legs[i].Asleep, anyRange())
			}
		}
		return route
	}
	for range 20000 {
		in := input{post: example(), number: some(), route: some(), truth: copies.Truth{{nil, {1, 1}}, {{2}, {1, 2}}}}
		if r.Intn(2) == 0 {
			in.post = copies.Post{Patience: some()}
			for range r.Intn(6) {
				in.post.Sends = append(in.post.Sends, some())
			}
			for range r.Intn(5) {
				in.post.Routes = append(in.post.Routes, anyRoute())
			}
		}
		switch r.Intn(4) {
		case 0:
			in.truth = make(copies.Truth, r.Intn(5))
		case 1:
			in.truth[r.Intn(2)] = make([][]int, r.Intn(4))
		case 2:
			in.truth[r.Intn(2)][1] = numbers(some(), some(), some())[:r.Intn(4)]
		}
		for range r.Intn(10) {
			in.entries = append(in.entries, copies.Entry{Number: some(), At: some(), Skipped: r.Intn(2) == 0})
		}
		failed(t, in.all())
		copies.ProveTruth(in.post, in.truth, in.entries)
	}
}

// R4: arguments are not written to, and results are in memory of their own.
func TestMemory(t *testing.T) {
	in := input{post: example(), truth: copies.Truth{{{1}, {1, 1}}, {nil, {1, 2}}}, number: 1, route: 1, entries: entries(delivered(0, 1), delivered(1, 6), delivered(0, 2))[:2]}
	kept := in
	kept.post, kept.truth, kept.entries = clonePost(in.post), cloneTruth(in.truth), slices.Clone(in.entries)
	first, again := in.all(), in.all()
	copies.ProveTruth(in.post, in.truth, in.entries)
	if !reflect.DeepEqual(in, kept) || in.entries[:3][2] != delivered(0, 2) {
		t.Fatalf("arguments became %v", in)
	}
	fill(t, first, again)
	if !reflect.DeepEqual(in, kept) || !reflect.DeepEqual(in.all(), again) {
		t.Error("the arguments, or later results, changed with the results")
	}
}

// fill fills all lists, those behind their ends included, one by one; no other result may change.
func fill(t *testing.T, results, want []any) {
	t.Helper()
	for i, x := range results {
		switch list := x.(type) {
		case []int:
			fillInts(list)
		case []copies.Entry:
			for j := range list[:cap(list)] {
				list[:cap(list)][j] = delivered(99, 99)
			}
		case []copies.Range:
			for j := range list[:cap(list)] {
				list[:cap(list)][j] = span(99, 99)
			}
		case copies.Truth:
			fillTruth(t, list, want[i].(copies.Truth))
		}
		for j, y := range results {
			if j > i && !reflect.DeepEqual(y, want[j]) {
				t.Errorf("the result %d became %v with %d", j, y, i)
			}
		}
	}
}

func fillInts(list []int) {
	list = list[:cap(list)]
	for i := range list {
		list[i] = 99
	}
}

// fillTruth fills the lists of a truth from the last one to the first one; those before may not change.
func fillTruth(t *testing.T, truth, want copies.Truth) {
	t.Helper()
	for i := len(truth) - 1; i >= 0; i-- {
		for j := len(truth[i]) - 1; j >= 0; j-- {
			if !slices.Equal(truth[i][j], want[i][j]) {
				t.Errorf("the list of %d, %d became %v", i, j, truth[i][j])
			}
			fillInts(truth[i][j])
		}
		for j := range truth[i][:cap(truth[i])] {
			truth[i][:cap(truth[i])][j] = numbers(99)
		}
	}
}
