package rota_test

import (
	"math/rand"
	"slices"
	"testing"

	"glister/api"
	"glister/rota"
)

// found has what Best and Enough return; ok tells that there is a safe rota.
type found struct {
	r      [][]int
	duties int
	people []int
	ok     bool
}

// foundOf returns the best rota and the smallest set.
func foundOf(t *testing.T, p rota.Post) found {
	t.Helper()
	r, duties, e := rota.Best(p)
	people, f := rota.Enough(p)
	if e != f || e != api.OK && e != api.ErrStuck || e == api.OK && duties != dutiesOf(r) {
		t.Fatalf("%v: Best, Enough: %v, %v, %v; %v, %v", p, r, duties, e, people, f)
	}
	return found{r, duties, people, e == api.OK}
}

// failsOf returns what Fails does.
func failsOf(t *testing.T, p rota.Post, r [][]int) []int {
	t.Helper()
	list, e := rota.Fails(p, r)
	if e != api.OK || len(list) != len(p.Cases)+1 {
		t.Fatalf("%v: Fails of %v: %v, %v", p, r, list, e)
	}
	return list
}

// brightOf returns what Bright does.
func brightOf(t *testing.T, m rota.Mirror, polished []int) []rota.Range {
	t.Helper()
	list, e := rota.Bright(m, polished)
	if e != api.OK || len(list) != len(m.Loss) {
		t.Fatalf("%v: Bright of %v: %v, %v", m, polished, list, e)
	}
	return list
}

// stays tells whether no end of the brightness is below the floor.
func stays(t *testing.T, m rota.Mirror, polished []int) bool {
	t.Helper()
	return !slices.ContainsFunc(brightOf(t, m, polished), func(r rota.Range) bool { return r.Lo < m.Floor })
}

// P10.6, P3, P4
func TestInEachCase(t *testing.T) {
	safe, ill := 0, 0
	eachOf(large, 1500, func(r *rand.Rand, p rota.Post) {
		best := foundOf(t, p)
		if !best.ok {
			return
		}
		safe++
		for i, sick := range allCases(p) {
			for watch, need := range p.Need {
				awake := 0
				for _, person := range best.r[watch] {
					if sick[person] == rota.Never || sick[person] > watch {
						awake++
					} else {
						ill++
					}
				}
				if awake < need {
					t.Fatalf("%v: Best: %v, but in the case %d only %d are awake in %d", p, best.r, i, awake, watch)
				}
			}
		}
		stood := make([]int, len(p.People))
		for watch, people := range best.r {
			for _, person := range people {
				stood[person]++
				x := p.People[person]
				for earlier := max(0, watch-x.Rest); earlier < watch; earlier++ {
					if slices.Contains(best.r[earlier], person) {
						t.Fatalf("%v: Best: %v, but %d has not rested between %d and %d", p, best.r, person, earlier, watch)
					}
				}
				if !x.Able[watch] || stood[person] > x.Most {
					t.Fatalf("%v: Best: %v, but %d cannot be on duty in %d", p, best.r, person, watch)
				}
			}
		}
		if sum(stood) != best.duties || !rota.ProveRota(p, best.r, best.duties) || rota.ProveRota(p, best.r, best.duties-1) {
			t.Fatalf("%v: Best: %v, %v", p, best.r, best.duties)
		}
	})
	if safe < 300 || ill < 100 {
		t.Errorf("only %d posts with a safe rota, %d times a person of it is ill", safe, ill)
	}
}

// P10.7, P5: any rota is tried.
func TestFewestDuties(t *testing.T) {
	safe, stuck, as := 0, 0, 0
	eachOf(scale{3, 4}, 400, func(r *rand.Rand, p rota.Post) {
		best := foundOf(t, p)
		eachRota(p, func([][]int) bool { return true }, func(r [][]int) {
			if !rota.ProveRota(p, r, dutiesOf(r)) {
				return
			}
			if !best.ok || isBetter(r, best.r) {
				t.Fatalf("%v: Best: %v, but it can be %v", p, best.r, r)
			}
			if dutiesOf(r) == best.duties {
				as++
			}
		})
		if best.ok {
			safe++
		} else {
			stuck++
		}
	})
	if safe < 100 || stuck < 50 || as < safe*2 {
		t.Errorf("%d posts with a safe rota, %d without; %d with the fewest duties", safe, stuck, as)
	}
}

// harder checks that the second post has no better rota, and no shorter set, than the first one; it tells whether something is worse.
func harder(t *testing.T, p, hard rota.Post) bool {
	t.Helper()
	before, after := foundOf(t, p), foundOf(t, hard)
	if after.ok && (!before.ok || after.duties < before.duties || len(after.people) < len(before.people)) {
		t.Fatalf("Best, Enough of %v: %v; of %v: %v", p, before, hard, after)
	}
	return before.ok && (!after.ok || after.duties > before.duties || len(after.people) > len(before.people))
}

// P10.8
func TestMoreCases(t *testing.T) {
	cases, needs := 0, 0
	eachOf(large, 1500, func(r *rand.Rand, p rota.Post) {
		if len(p.Cases) < api.MaxRotaCases {
			hard := clonePost(p)
			hard.Cases = slices.Insert(hard.Cases, r.Intn(len(hard.Cases)+1), randomCase(r, p))
			if harder(t, p, hard) {
				cases++
			}
		}
		hard, watch := clonePost(p), r.Intn(len(p.Need))
		hard.Need[watch] += r.Intn(api.MaxRotaNeed - hard.Need[watch] + 1)
		if harder(t, p, hard) {
			needs++
		}
	})
	if cases < 100 || needs < 100 {
		t.Errorf("only %d cases, %d needs that make something worse", cases, needs)
	}
}

// P10.9
func TestEasier(t *testing.T) {
	seen := map[string]int{}
	eachOf(large, 2500, func(r *rand.Rand, p rota.Post) {
		check := func(what string, easy rota.Post) {
			if harder(t, easy, p) {
				seen[what]++
			}
		}
		person, watch := r.Intn(len(p.People)), r.Intn(len(p.Need))
		if x := p.People[person]; x.Rest > 0 {
			easy := clonePost(p)
			easy.People[person].Rest = r.Intn(x.Rest)
			check("rest", easy)
		}
		if x := p.People[person]; x.Most < api.MaxRotaWatches {
			easy := clonePost(p)
			easy.People[person].Most = x.Most + 1 + r.Intn(api.MaxRotaWatches-x.Most)
			check("most", easy)
		}
		if !p.People[person].Able[watch] {
			easy := clonePost(p)
			easy.People[person].Able[watch] = true
			check("able", easy)
		}
		if len(p.People) < api.MaxRotaPeople {
			check("person", onePersonMore(r, p))
		}
	})
	for _, what := range []string{"rest", "most", "able", "person"} {
		if seen[what] < 20 {
			t.Errorf("only so many of each that make something better: %v", seen)
		}
	}
}

// onePersonMore has one more person, at any index, who is ill in some cases.
func onePersonMore(r *rand.Rand, p rota.Post) rota.Post {
	more, at := clonePost(p), r.Intn(len(p.People)+1)
	more.People = slices.Insert(more.People, at, randomPerson(r, len(p.Need)))
	for i, ill := range more.Cases {
		more.Cases[i] = slices.Insert(ill, at, numbers(rota.Never, rota.Never, r.Intn(len(p.Need)))[r.Intn(3)])
	}
	return more
}

// lasts returns a watch at which a rota fails, or a number after all watches if it holds.
func lasts(watch int) int {
	if watch == rota.Never {
		return api.MaxRotaWatches
	}
	return watch
}

// P10.10: nor does it fail earlier.
func TestLaterIll(t *testing.T) {
	held, later := 0, 0
	eachOf(large, 6000, func(r *rand.Rand, p rota.Post) {
		if len(p.Cases) == 0 {
			return
		}
		some, person := r.Intn(len(p.Cases)), r.Intn(len(p.People))
		from := p.Cases[some][person]
		if from == rota.Never {
			return
		}
		well := clonePost(p)
		well.Cases[some][person] = append(numbers(rota.Never), upTo(len(p.Need))[from+1:]...)[r.Intn(len(p.Need)-from)]
		x := randomRota(r, p)
		if best := foundOf(t, p); best.ok && r.Intn(2) == 0 {
			x = best.r
		}
		before, after := failsOf(t, p, x), failsOf(t, well, x)
		for i := range before {
			if i != some && after[i] != before[i] || lasts(after[i]) < lasts(before[i]) {
				t.Fatalf("%v: Fails of %v: %v; with the cases %v: %v", p, x, before, well.Cases, after)
			}
		}
		if before[some] == rota.Never {
			held++
		}
		if before[some] != after[some] {
			later++
		}
	})
	if held < 100 || later < 50 {
		t.Errorf("only %d rotas held in the case, %d fail later", held, later)
	}
}

// upTo lists the numbers below n.
func upTo(n int) []int {
	var list []int
	for i := range n {
		list = append(list, i)
	}
	return list
}

// alone is the post in which nobody else is able.
func alone(p rota.Post, people []int) rota.Post {
	p = clonePost(p)
	for person := range p.People {
		if !slices.Contains(people, person) {
			p.People[person].Able = make([]bool, len(p.Need))
		}
	}
	return p
}

// P10.11, P6: any list that is shorter is tried, and any that is as long and before the smallest set.
func TestSmallestSet(t *testing.T) {
	lengths := map[int]int{}
	eachOf(large, 1000, func(r *rand.Rand, p rota.Post) {
		best := foundOf(t, p)
		if !best.ok {
			lengths[-1]++
		} else {
			lengths[len(best.people)]++
			x := foundOf(t, alone(p, best.people))
			if !x.ok || !slices.Equal(onDuty(x.r), best.people) || !rota.ProveRota(p, x.r, x.duties) {
				t.Fatalf("%v: Enough: %v, but with them alone %v", p, best.people, x)
			}
		}
		eachSet(len(p.People), func(people []int) {
			if (!best.ok || isBefore(people, best.people)) && foundOf(t, alone(p, people)).ok {
				t.Fatalf("%v: Enough: %v, but it can be %v", p, best.people, people)
			}
		})
	})
	for many := range 6 {
		if lengths[many-1] < 10 {
			t.Errorf("only so many smallest sets of each length: %v", lengths)
		}
	}
}

// P10.12
func TestOneMoreOnDuty(t *testing.T) {
	later := 0
	eachOf(large, 4000, func(r *rand.Rand, p rota.Post) {
		x := randomRota(r, p)
		watch, person := r.Intn(len(x)), r.Intn(len(p.People))
		if slices.Contains(x[watch], person) {
			return
		}
		more := cloneLists(x)
		more[watch] = append(more[watch], person)
		slices.Sort(more[watch])
		before, after := failsOf(t, p, x), failsOf(t, p, more)
		for i := range before {
			if lasts(after[i]) < lasts(before[i]) {
				t.Fatalf("%v: Fails of %v: %v, of %v: %v", p, x, before, more, after)
			}
			if after[i] != before[i] {
				later++
			}
		}
	})
	if later < 300 {
		t.Errorf("only %d times a rota fails later", later)
	}
}

// P7: the order of the cases does not matter, except for their indexes.
func TestAnyOrder(t *testing.T) {
	several := 0
	eachOf(large, 1000, func(r *rand.Rand, p rota.Post) {
		other, places := clonePost(p), r.Perm(len(p.Cases))
		for i, place := range places {
			other.Cases[place] = p.Cases[i]
		}
		x := randomRota(r, p)
		fails, again := failsOf(t, p, x), failsOf(t, other, x)
		for i, place := range places {
			if again[place] != fails[i] {
				t.Fatalf("%v: Fails of %v: %v, with the cases %v: %v", p, x, fails, other.Cases, again)
			}
		}
		best, after := foundOf(t, p), foundOf(t, other)
		if best.ok != after.ok || !sameRota(best.r, after.r) || !slices.Equal(best.people, after.people) {
			t.Fatalf("%v: Best, Enough: %v, with the cases %v: %v", p, best, other.Cases, after)
		}
		if best.ok && len(p.Cases) > 1 {
			several++
		}
	})
	if several < 50 {
		t.Errorf("only %d posts with several cases and a safe rota", several)
	}
}

// P10.13, P2
func TestInEachTruth(t *testing.T) {
	wide := 0
	eachMirror(false, 1000, func(r *rand.Rand, m rota.Mirror) {
		polished := randomSet(r, len(m.Loss))
		bright := brightOf(t, m, polished)
		reached := slices.Repeat([]rota.Range{span(100, 0)}, len(bright))
		for i := range 20 {
			var lost []int
			for _, loss := range m.Loss {
				lost = append(lost, numbers(loss.Lo, loss.Hi, loss.Lo+r.Intn(loss.Hi-loss.Lo+1))[min(i, 2)])
			}
			for watch, after := range modelAfter(lost, polished) {
				if after < bright[watch].Lo || after > bright[watch].Hi {
					t.Fatalf("%v: Bright of %v: %v, but %d after %d if %v is lost", m, polished, bright, after, watch, lost)
				}
				reached[watch] = span(min(reached[watch].Lo, after), max(reached[watch].Hi, after))
			}
		}
		if !slices.Equal(reached, bright) {
			t.Fatalf("%v: Bright of %v: %v, but only %v is reached", m, polished, bright, reached)
		}
		if slices.ContainsFunc(bright, func(r rota.Range) bool { return r.Lo < r.Hi }) {
			wide++
		}
	})
	if wide < 500 {
		t.Errorf("only %d mirrors with several truths", wide)
	}
}

// P10.14, P5: any list that is shorter is tried, and any that is as long and before the best polishing.
func TestBestPolishing(t *testing.T) {
	lengths := map[int]int{}
	eachMirror(false, 1500, func(r *rand.Rand, m rota.Mirror) {
		best, e := rota.Polish(m)
		if e != api.OK && e != api.ErrStuck || e == api.OK && (!slices.IsSorted(best) || !stays(t, m, best)) {
			t.Fatalf("%v: Polish: %v, %v", m, best, e)
		}
		eachSet(len(m.Loss), func(list []int) {
			if (e != api.OK || isBefore(list, best)) && stays(t, m, list) {
				t.Fatalf("%v: Polish: %v, %v, but it can be %v", m, best, e, list)
			}
		})
		if e == api.OK {
			lengths[len(best)]++
		} else {
			lengths[-1]++
		}
	})
	for many := range 5 {
		if lengths[many-1] < 20 {
			t.Errorf("only so many best polishings of each length: %v", lengths)
		}
	}
}

// P10.15
func TestMorePolishing(t *testing.T) {
	brighter, shorter := 0, 0
	eachMirror(false, 2000, func(r *rand.Rand, m rota.Mirror) {
		list, watch := randomSet(r, len(m.Loss)), r.Intn(len(m.Loss))
		if !slices.Contains(list, watch) {
			more := append(slices.Clone(list), watch)
			slices.Sort(more)
			before, after := brightOf(t, m, list), brightOf(t, m, more)
			for i, x := range after {
				if x.Lo < before[i].Lo || x.Hi < before[i].Hi {
					t.Fatalf("%v: Bright of %v: %v, of %v: %v", m, list, before, more, after)
				}
			}
			if !slices.Equal(before, after) {
				brighter++
			}
		}
		if m.Floor == 0 {
			return
		}
		best, e := rota.Polish(m)
		m.Floor = r.Intn(m.Floor)
		other, f := rota.Polish(m)
		if e == api.OK && (f != api.OK || len(other) > len(best)) {
			t.Fatalf("%v: Polish: %v, %v; with more floor: %v, %v", m, other, f, best, e)
		}
		if f == api.OK && (e != api.OK || len(other) < len(best)) {
			shorter++
		}
	})
	if brighter < 300 || shorter < 100 {
		t.Errorf("only %d lists with which the mirror is brighter, %d shorter polishings", brighter, shorter)
	}
}
