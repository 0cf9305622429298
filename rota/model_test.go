package rota_test

import (
	"math/rand"
	"slices"

	"glister/api"
	"glister/rota"
)

// A second reading of the chapter: what each person stands is looked at by pairs of watches, and all rotas, all sets of people, all truths of mirrors and all lists of watches are tried; where there are too many rotas, only those are that hold watch by watch.

// stands lists the watches in which the person is on duty.
func stands(r [][]int, person int) []int {
	var list []int
	for watch, people := range r {
		if slices.Contains(people, person) {
			list = append(list, watch)
		}
	}
	return list
}

// between counts the watches between both.
func between(watch, later int) int {
	many := 0
	for other := watch + 1; other < later; other++ {
		many++
	}
	return many
}

// modelRules tells whether the rota, of which some watches can be missing at the end, keeps the rules.
func modelRules(p rota.Post, r [][]int) bool {
	for person, x := range p.People {
		list := stands(r, person)
		if len(list) > x.Most {
			return false
		}
		for i, watch := range list {
			if !x.Able[watch] {
				return false
			}
			for _, later := range list[i+1:] {
				if between(watch, later) < x.Rest {
					return false
				}
			}
		}
	}
	return true
}

// healthy is the case in which nobody is ill.
func healthy(p rota.Post) []int { return slices.Repeat(numbers(rota.Never), len(p.People)) }

// allCases has the cases of the post, and at last the one in which nobody is ill.
func allCases(p rota.Post) [][]int { return slices.Concat(p.Cases, [][]int{healthy(p)}) }

// modelHolds tells whether enough of the people are not ill in the watch, in the case.
func modelHolds(p rota.Post, watch int, people, ill []int) bool {
	awake := slices.Clone(people)
	for watch := range watch + 1 {
		awake = slices.DeleteFunc(awake, func(person int) bool { return ill[person] == watch })
	}
	return len(awake) >= p.Need[watch]
}

func modelFails(p rota.Post, r [][]int) []int {
	var list []int
	for _, ill := range allCases(p) {
		fails := rota.Never
		for watch := len(p.Need) - 1; watch >= 0; watch-- {
			if !modelHolds(p, watch, r[watch], ill) {
				fails = watch
			}
		}
		list = append(list, fails)
	}
	return list
}

func modelSafe(p rota.Post, r [][]int) bool {
	return modelRules(p, r) && !slices.ContainsFunc(modelFails(p, r), func(watch int) bool { return watch != rota.Never })
}

// eachSet calls the test with each set of numbers below many.
func eachSet(many int, test func(list []int)) {
	for set := range 1 << many {
		var list []int
		for i := range many {
			if set>>i&1 == 1 {
				list = append(list, i)
			}
		}
		test(list)
	}
}

// eachRota calls the test with all rotas that have watches, each of which passes with those before it.
func eachRota(p rota.Post, passes func(r [][]int) bool, test func(r [][]int)) {
	var try func(r [][]int)
	try = func(r [][]int) {
		if len(r) == len(p.Need) {
			test(slices.Clone(r))
			return
		}
		eachSet(len(p.People), func(people []int) {
			if more := append(slices.Clone(r), people); passes(more) {
				try(more)
			}
		})
	}
	try(nil)
}

// solver calls the test with all safe rotas.
type solver func(p rota.Post, test func(r [][]int))

// byRotas tries all rotas.
func byRotas(p rota.Post, test func(r [][]int)) {
	eachRota(p, func([][]int) bool { return true }, func(r [][]int) {
		if modelSafe(p, r) {
			test(r)
		}
	})
}

// byWatches leaves out those of which the watches up to one break the rules, or in which people are missing.
func byWatches(p rota.Post, test func(r [][]int)) {
	eachRota(p, func(r [][]int) bool {
		watch := len(r) - 1
		return modelRules(p, r) && !slices.ContainsFunc(allCases(p), func(ill []int) bool { return !modelHolds(p, watch, r[watch], ill) })
	}, test)
}

// compareLists compares lists of people.
func compareLists(list, other []int) int {
	if len(list) != len(other) {
		return len(list) - len(other)
	}
	return slices.Compare(list, other)
}

// isBefore tells whether the list is shorter than the other one, or as long and smaller at the first index at which they differ.
func isBefore(list, other []int) bool { return compareLists(list, other) < 0 }

// isBetter tells whether the rota has fewer duties than the other one, or as many and is smaller.
func isBetter(r, other [][]int) bool {
	if duties, others := dutiesOf(r), dutiesOf(other); duties != others {
		return duties < others
	}
	return slices.CompareFunc(r, other, compareLists) < 0
}

func dutiesOf(r [][]int) int { return len(slices.Concat(r...)) }

// onDuty lists all people of the rota, rising.
func onDuty(r [][]int) []int {
	list := slices.Concat(r...)
	slices.Sort(list)
	return slices.Compact(list)
}

// modelBest returns the best rota, and the smallest set of people, if there is a safe rota.
func modelBest(p rota.Post, open solver) (best [][]int, enough []int, ok bool) {
	open(p, func(r [][]int) {
		if !ok || isBetter(r, best) {
			best = r
		}
		// All people of a smallest set are on duty in a safe rota: without the others it would be smaller.
		if people := onDuty(r); !ok || isBefore(people, enough) {
			enough = people
		}
		ok = true
	})
	return best, enough, ok
}

// eachLoss calls the test with each truth of the mirror.
func eachLoss(m rota.Mirror, test func(list []int)) {
	var try func(list []int)
	try = func(list []int) {
		if len(list) == len(m.Loss) {
			test(slices.Clone(list))
			return
		}
		for n := m.Loss[len(list)].Lo; n <= m.Loss[len(list)].Hi; n++ {
			try(append(list, n))
		}
	}
	try(nil)
}

// modelAfter returns the brightness after each watch, in the truth.
func modelAfter(lost, polished []int) []int {
	var list []int
	bright := 100
	for watch, n := range lost {
		for _, other := range polished {
			if other == watch {
				bright = 100
			}
		}
		for range n {
			if bright > 0 {
				bright--
			}
		}
		list = append(list, bright)
	}
	return list
}

// modelBright tries all truths.
func modelBright(m rota.Mirror, polished []int) []rota.Range {
	list := slices.Repeat([]rota.Range{span(100, 0)}, len(m.Loss))
	eachLoss(m, func(lost []int) {
		for watch, bright := range modelAfter(lost, polished) {
			list[watch] = span(min(list[watch].Lo, bright), max(list[watch].Hi, bright))
		}
	})
	return list
}

// modelStays tells whether the mirror stays bright.
func modelStays(m rota.Mirror, polished []int) bool {
	return !slices.ContainsFunc(modelBright(m, polished), func(r rota.Range) bool { return r.Lo < m.Floor })
}

func modelPolish(m rota.Mirror) (best []int, ok bool) {
	eachSet(len(m.Loss), func(list []int) {
		if (!ok || isBefore(list, best)) && modelStays(m, list) {
			best, ok = list, true
		}
	})
	return best, ok
}

// few returns a number up to the most, more often a small one.
func few(r *rand.Rand, most int) int { return r.Intn(r.Intn(most+1) + 1) }

// scale tells how many watches and people random posts have at most.
type scale struct{ watches, people int }

var (
	small = scale{3, 3}
	large = scale{api.MaxRotaWatches, api.MaxRotaPeople}
)

func randomPerson(r *rand.Rand, watches int) rota.Person {
	x := rota.Person{Rest: few(r, 3), Most: api.MaxRotaWatches - few(r, api.MaxRotaWatches)}
	for range watches {
		x.Able = append(x.Able, r.Intn(5) > 0)
	}
	return x
}

func randomCase(r *rand.Rand, p rota.Post) []int {
	ill := healthy(p)
	for range 1 + r.Intn(2) {
		ill[r.Intn(len(ill))] = r.Intn(len(p.Need))
	}
	return ill
}

func randomPost(r *rand.Rand, x scale) rota.Post {
	var p rota.Post
	for range 1 + r.Intn(x.watches) {
		p.Need = append(p.Need, []int{0, 1, 1, 1, 1, 2}[r.Intn(6)])
	}
	for range x.people - few(r, x.people-1) {
		p.People = append(p.People, randomPerson(r, len(p.Need)))
	}
	for range few(r, api.MaxRotaCases) {
		p.Cases = append(p.Cases, randomCase(r, p))
	}
	return p
}

// randomRota is any one of the post; in most watches there are not many people on duty.
func randomRota(r *rand.Rand, p rota.Post) [][]int {
	var list [][]int
	for range p.Need {
		list = append(list, randomSet(r, len(p.People)))
	}
	return list
}

func randomSet(r *rand.Rand, end int) []int {
	var list []int
	often := 2 + r.Intn(3)
	for n := range end {
		if r.Intn(often) == 0 {
			list = append(list, n)
		}
	}
	return list
}

// eachOf calls the test with random posts of the scale, always the same ones.
func eachOf(x scale, many int, test func(r *rand.Rand, p rota.Post)) {
	r := rand.New(rand.NewSource(31))
	for range many {
		test(r, randomPost(r, x))
	}
}

// randomMirror has few truths if few is true.
func randomMirror(r *rand.Rand, short bool) rota.Mirror {
	m := rota.Mirror{Floor: few(r, 100)}
	watches, wide := api.MaxRotaLosses, 100
	if short {
		watches, wide = 5, 3
	}
	for range 1 + r.Intn(watches) {
		lo := few(r, 100)
		m.Loss = append(m.Loss, span(lo, min(100, lo+few(r, wide))))
	}
	return m
}

// eachMirror calls the test with random mirrors, always the same ones.
func eachMirror(short bool, many int, test func(r *rand.Rand, m rota.Mirror)) {
	r := rand.New(rand.NewSource(32))
	for range many {
		test(r, randomMirror(r, short))
	}
}

func cloneLists(lists [][]int) [][]int {
	list := slices.Clone(lists)
	for i, x := range list {
		list[i] = slices.Clone(x)
	}
	return list
}

func clonePost(p rota.Post) rota.Post {
	p.Need, p.People, p.Cases = slices.Clone(p.Need), slices.Clone(p.People), cloneLists(p.Cases)
	for i, x := range p.People {
		p.People[i].Able = slices.Clone(x.Able)
	}
	return p
}
