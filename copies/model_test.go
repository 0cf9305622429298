package copies_test

import (
	"fmt"
	"math/rand"
	"slices"

	"glister/api"
	"glister/copies"
)

// A second reading of the chapter: copies go, and the receiver waits, hour by hour; all truths of small posts are tried, and all sets of entries.

// isAsleep tells whether the station at the end of the leg is asleep.
func isAsleep(l copies.Leg, hour int) bool {
	for _, night := range l.Asleep {
		for h := night.Lo; h <= night.Hi; h++ {
			if h == hour {
				return true
			}
		}
	}
	return false
}

// modelHour returns the hour at which a copy is at the receiver that is not lost.
func modelHour(r copies.Route, send int, takes []int) int {
	leg, left := 0, takes[0]
	for hour := send; ; hour++ {
		for left == 0 && !isAsleep(r.Legs[leg], hour) {
			leg++
			if leg == len(r.Legs) {
				return hour
			}
			left = takes[leg]
		}
		left = max(left-1, 0)
	}
}

// modelJournal returns what becomes of the dispatches: at each hour the receiver looks for the next one.
func modelJournal(p copies.Post, t copies.Truth) []copies.Entry {
	var list []copies.Entry
	for hour := 0; len(list) < len(p.Sends); hour++ {
		for len(list) < len(p.Sends) {
			number := len(list)
			deadline := p.Sends[number] + p.Patience
			there := false
			for i, r := range p.Routes {
				takes := t[number][i]
				there = there || len(takes) > 0 && modelHour(r, p.Sends[number], takes) <= min(hour, deadline)
			}
			if !there && hour < deadline {
				break
			}
			list = append(list, copies.Entry{Number: number, At: hour, Skipped: !there})
		}
	}
	return list
}

// waysOf returns all lists of numbers of hours of a copy by the route, with an empty one if it can be lost.
func waysOf(r copies.Route) [][]int {
	all := [][]int{nil}
	for _, l := range r.Legs {
		var longer [][]int
		for _, takes := range all {
			for n := l.Takes.Lo; n <= l.Takes.Hi; n++ {
				longer = append(longer, append(slices.Clone(takes), n))
			}
		}
		all = longer
	}
	if r.Lossy {
		all = append(all, nil)
	}
	return all
}

func manyTruths(p copies.Post) int {
	many := 1
	for range p.Sends {
		for _, r := range p.Routes {
			many *= len(waysOf(r))
		}
	}
	return many
}

// eachTruth calls the test with each truth of the post.
func eachTruth(p copies.Post, test func(t copies.Truth)) {
	var add func(t copies.Truth)
	add = func(t copies.Truth) {
		last := len(t) - 1
		switch {
		case last >= 0 && len(t[last]) < len(p.Routes):
			for _, takes := range waysOf(p.Routes[len(t[last])]) {
				longer := slices.Clone(t)
				longer[last] = append(slices.Clone(t[last]), takes)
				add(longer)
			}
		case len(t) < len(p.Sends):
			add(append(slices.Clone(t), nil))
		default:
			test(t)
		}
	}
	add(nil)
}

// journalsOf returns all journals of the truths of the post, each one once.
func journalsOf(p copies.Post) [][]copies.Entry {
	var list [][]copies.Entry
	known := map[string]bool{}
	eachTruth(p, func(t copies.Truth) {
		journal := modelJournal(p, t)
		if key := fmt.Sprint(journal); !known[key] {
			known[key] = true
			list = append(list, journal)
		}
	})
	return list
}

func modelSpans(journals [][]copies.Entry) []copies.Range {
	var list []copies.Range
	for number, e := range journals[0] {
		span := copies.Range{Lo: e.At, Hi: e.At}
		for _, journal := range journals {
			span.Lo, span.Hi = min(span.Lo, journal[number].At), max(span.Hi, journal[number].At)
		}
		list = append(list, span)
	}
	return list
}

func modelSurely(journals [][]copies.Entry) []int {
	var list []int
	for number := range journals[0] {
		if !slices.ContainsFunc(journals, func(journal []copies.Entry) bool { return journal[number].Skipped }) {
			list = append(list, number)
		}
	}
	return list
}

// modelLeast tries each patience; it returns -1 if none is enough.
func modelLeast(p copies.Post) int {
	for p.Patience = 0; p.Patience <= api.MaxCopiesHour; p.Patience++ {
		if len(modelSurely(journalsOf(p))) == len(p.Sends) {
			return p.Patience
		}
	}
	return -1
}

// explained tells whether some journal has all entries.
func explained(journals [][]copies.Entry, entries []copies.Entry) bool {
	return slices.ContainsFunc(journals, func(journal []copies.Entry) bool {
		return !slices.ContainsFunc(entries, func(e copies.Entry) bool { return journal[e.Number] != e })
	})
}

// leaveOut returns the entries whose indexes are not in the list.
func leaveOut(entries []copies.Entry, list []int) []copies.Entry {
	var others []copies.Entry
	for i, e := range entries {
		if !slices.Contains(list, i) {
			others = append(others, e)
		}
	}
	return others
}

// eachSet calls the test with each set of indexes below many.
func eachSet(many int, test func(list []int)) {
	for set := range 1 << many {
		var list []int
		for i := range many {
			if set>>i&1 == 1 {
				list = append(list, i)
			}
		}
		test(list)
	}
}

func modelOdd(journals [][]copies.Entry, entries []copies.Entry) []int {
	best := upTo(len(entries))
	eachSet(len(entries), func(list []int) {
		if (len(list) < len(best) || len(list) == len(best) && slices.Compare(list, best) < 0) && explained(journals, leaveOut(entries, list)) {
			best = list
		}
	})
	return best
}

// randomRange makes a range with ends from 0 to most, and at most wide + 1 numbers.
func randomRange(r *rand.Rand, most, wide int) copies.Range {
	lo := r.Intn(most + 1)
	return copies.Range{Lo: lo, Hi: min(lo+r.Intn(wide+1), most)}
}

// scale tells how large random posts are.
type scale struct{ sends, routes, hour, wide int }

func randomRoute(r *rand.Rand, s scale) copies.Route {
	route := copies.Route{Lossy: r.Intn(3) == 0}
	for range 1 + r.Intn(api.MaxCopiesLegs) {
		l := copies.Leg{Takes: randomRange(r, api.MaxCopiesTakes, s.wide)}
		for range r.Intn(api.MaxCopiesAsleep + 1) {
			l.Asleep = append(l.Asleep, randomRange(r, s.hour, s.hour/2))
		}
		route.Legs = append(route.Legs, l)
	}
	return route
}

func randomPost(r *rand.Rand, s scale) copies.Post {
	p := copies.Post{Patience: r.Intn(s.hour + 1)}
	p.Sends = r.Perm(s.hour + 1)[:1+r.Intn(s.sends)]
	slices.Sort(p.Sends)
	for range 1 + r.Intn(s.routes) {
		p.Routes = append(p.Routes, randomRoute(r, s))
	}
	return p
}

// eachPost calls the test with random posts of any size, always the same ones.
func eachPost(many int, test func(r *rand.Rand, p copies.Post)) {
	r := rand.New(rand.NewSource(11))
	for range many {
		s := scale{sends: api.MaxCopiesSends, routes: api.MaxCopiesRoutes, hour: []int{5, 12, 20, api.MaxCopiesHour}[r.Intn(4)], wide: api.MaxCopiesTakes}
		test(r, randomPost(r, s))
	}
}

// eachSmall calls the test with random posts that are small enough to try all truths, always the same ones.
func eachSmall(many int, test func(r *rand.Rand, p copies.Post)) {
	r := rand.New(rand.NewSource(12))
	for range many {
		p := randomPost(r, scale{sends: 3, routes: 3, hour: 10, wide: 2})
		for manyTruths(p) > 1500 {
			p = randomPost(r, scale{sends: 3, routes: 3, hour: 10, wide: 2})
		}
		test(r, p)
	}
}

// randomTruth makes a truth of the post.
func randomTruth(r *rand.Rand, p copies.Post) copies.Truth {
	var t copies.Truth
	for range p.Sends {
		var row [][]int
		for _, route := range p.Routes {
			var takes []int
			if !route.Lossy || r.Intn(2) == 0 {
				for _, l := range route.Legs {
					takes = append(takes, l.Takes.Lo+r.Intn(l.Takes.Hi-l.Takes.Lo+1))
				}
			}
			row = append(row, takes)
		}
		t = append(t, row)
	}
	return t
}

// randomEntries makes at most as many entries, of which most are those of some truth.
func randomEntries(r *rand.Rand, p copies.Post, most int) []copies.Entry {
	var list []copies.Entry
	journal := modelJournal(p, randomTruth(r, p))
	for range r.Intn(most + 1) {
		e := journal[r.Intn(len(journal))]
		switch r.Intn(8) {
		case 0:
			e.At = max(0, e.At+r.Intn(5)-2)
		case 1:
			e.Skipped = !e.Skipped
		case 2:
			e = modelJournal(p, randomTruth(r, p))[e.Number]
		}
		list = append(list, e)
	}
	return list
}

// upTo lists the numbers below n.
func upTo(n int) []int {
	var list []int
	for i := range n {
		list = append(list, i)
	}
	return list
}

// clonePost copies a post with all its lists.
func clonePost(p copies.Post) copies.Post {
	p.Sends, p.Routes = slices.Clone(p.Sends), slices.Clone(p.Routes)
	for i := range p.Routes {
		legs := slices.Clone(p.Routes[i].Legs)
		for j := range legs {
			legs[j].Asleep = slices.Clone(legs[j].Asleep)
		}
		p.Routes[i].Legs = legs
	}
	return p
}

// cloneTruth copies a truth with all its lists.
func cloneTruth(t copies.Truth) copies.Truth {
	t = slices.Clone(t)
	for i := range t {
		t[i] = slices.Clone(t[i])
		for j := range t[i] {
			t[i][j] = slices.Clone(t[i][j])
		}
	}
	return t
}
