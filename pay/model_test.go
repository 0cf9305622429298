package pay_test

import (
	"math/rand"
	"slices"

	"glister/api"
	"glister/pay"
)

// A second reading of the chapter: pence are handed out one by one, all truths and all numbers of words are tried, groups are looked for by giving each station to any of them, and the fewest payments by making all payments from the balances that are reached.

// modelPrice adds the rate word by word.
func modelPrice(a pay.Account, words int) int {
	price := 0
	for range words {
		price += a.Rate
	}
	return price
}

// modelShares hands out the price of so many words penny by penny, round by round, from the last station on.
func modelShares(a pay.Account, passed []int, words int) []int {
	shares := make([]int, len(passed))
	left := modelPrice(a, words)
	for first := left * a.Keeps; first >= 100; first -= 100 {
		shares[0]++
		left--
	}
	for next := len(passed) - 1; left > 0; left-- {
		shares[next]++
		if next--; next < 0 {
			next = len(passed) - 1
		}
	}
	return shares
}

// modelBalance pays penny by penny what each dispatch costs, and what it brings.
func modelBalance(a pay.Account, truth []int) []int {
	balance := make([]int, a.Stations)
	for i, d := range a.Dispatches {
		for j, share := range modelShares(a, d.Passed, truth[i]) {
			for range share {
				balance[d.Passed[j]]++
				balance[d.Payer]--
			}
		}
	}
	return balance
}

// eachTruth calls the test with all truths of the account, in lexicographic order.
func eachTruth(a pay.Account, test func(truth []int)) {
	var try func(truth []int)
	try = func(truth []int) {
		if len(truth) == len(a.Dispatches) {
			test(truth)
			return
		}
		words := a.Dispatches[len(truth)].Words
		for n := words.Lo; n <= words.Hi; n++ {
			try(append(slices.Clone(truth), n))
		}
	}
	try(nil)
}

// reached has the bounds of the balance of a station, and the first truths in which both ends are reached.
type reached struct {
	bounds    pay.Range
	low, high []int
}

// modelReach tries all truths.
func modelReach(a pay.Account) []reached {
	list := make([]reached, a.Stations)
	first := true
	eachTruth(a, func(truth []int) {
		for station, balance := range modelBalance(a, truth) {
			x := &list[station]
			if first || balance < x.bounds.Lo {
				x.bounds.Lo, x.low = balance, truth
			}
			if first || balance > x.bounds.Hi {
				x.bounds.Hi, x.high = balance, truth
			}
		}
		first = false
	})
	return list
}

// modelWords tries all words.
func modelWords(a pay.Account, c pay.Claim) []int {
	var list []int
	d := a.Dispatches[c.Dispatch]
	for words := 1; words <= api.MaxPayWords; words++ {
		share := modelShares(a, d.Passed, words)[slices.Index(d.Passed, c.Station)]
		if words >= d.Words.Lo && words <= d.Words.Hi && share == c.Pence {
			list = append(list, words)
		}
	}
	return list
}

// modelSettled tells whether the payments are between stations, and what each one gets, less what it pays, is its balance.
func modelSettled(balances []int, l []pay.Payment) bool {
	for _, p := range l {
		if min(p.From, p.To) < 0 || max(p.From, p.To) >= len(balances) || p.From == p.To || p.Amount < 1 || p.Amount > 100000 {
			return false
		}
	}
	for station, balance := range balances {
		to, from := 0, 0
		for _, p := range l {
			if p.To == station {
				to += p.Amount
			}
			if p.From == station {
				from += p.Amount
			}
		}
		if to-from != balance {
			return false
		}
	}
	return true
}

// modelGroups tells whether the lists are groups of the balances.
func modelGroups(balances []int, l [][]int) bool {
	times := make([]int, len(balances))
	for _, group := range l {
		total, before := 0, -1
		for _, station := range group {
			if station <= before || station >= len(balances) {
				return false
			}
			total, before = total+balances[station], station
			times[station]++
		}
		if len(group) == 0 || total != 0 {
			return false
		}
	}
	for station, balance := range balances {
		if (balance != 0) != (times[station] == 1) || times[station] > 1 {
			return false
		}
	}
	return true
}

// modelMost gives each station to each group, and returns how many groups there are at the most.
func modelMost(balances []int) int {
	most := -1
	var try func(groups [][]int, station int)
	try = func(groups [][]int, station int) {
		switch {
		case station == len(balances):
			if len(groups) > most && modelGroups(balances, groups) {
				most = len(groups)
			}
			return
		case balances[station] == 0:
			try(groups, station+1)
			return
		}
		for i := range groups {
			more := slices.Clone(groups)
			more[i] = append(slices.Clone(more[i]), station)
			try(more, station+1)
		}
		try(append(slices.Clone(groups), numbers(station)), station+1)
	}
	try(nil, 0)
	return most
}

// wide is how many stations modelFewest knows.
const wide = 5

// modelFewest returns the fewest payments for all balances of so many stations up to the most that any one has, if none has more between two payments either.
func modelFewest(stations, most int) map[[wide]int]int {
	known := map[[wide]int]int{{}: 0}
	for at := [][wide]int{{}}; len(at) > 0; {
		var next [][wide]int
		for _, balances := range at {
			for from := range stations {
				for to := range stations {
					for amount := 1; from != to && balances[from]-amount >= -most && balances[to]+amount <= most; amount++ {
						more := balances
						more[from] -= amount
						more[to] += amount
						if _, found := known[more]; !found {
							known[more] = known[balances] + 1
							next = append(next, more)
						}
					}
				}
			}
		}
		at = next
	}
	return known
}

// few returns a number up to the most, more often a small one.
func few(r *rand.Rand, most int) int { return r.Intn(r.Intn(most+1) + 1) }

// scale tells how much random accounts have at most.
type scale struct{ dispatches, wide int }

var (
	small = scale{4, 5}
	large = scale{api.MaxPayDispatches, api.MaxPayWords}
)

func randomDispatch(r *rand.Rand, stations, wide int) pay.Dispatch {
	lo := 1 + few(r, api.MaxPayWords-1)
	return pay.Dispatch{
		Payer:  r.Intn(stations),
		Words:  span(lo, min(api.MaxPayWords, lo+r.Intn(wide))),
		Passed: r.Perm(stations)[:1+r.Intn(min(stations, api.MaxPayPassed))],
	}
}

func randomAccount(r *rand.Rand, x scale) pay.Account {
	a := pay.Account{Stations: api.MaxPayStations - few(r, api.MaxPayStations-1), Rate: r.Intn(api.MaxPayRate + 1), Keeps: few(r, 100)}
	for range r.Intn(x.dispatches + 1) {
		a.Dispatches = append(a.Dispatches, randomDispatch(r, a.Stations, x.wide))
	}
	return a
}

// eachOf calls the test with random accounts of the scale, always the same ones.
func eachOf(x scale, many int, test func(r *rand.Rand, a pay.Account)) {
	r := rand.New(rand.NewSource(34))
	for range many {
		test(r, randomAccount(r, x))
	}
}

// randomTruth is one of the account.
func randomTruth(r *rand.Rand, a pay.Account) []int {
	var truth []int
	for _, d := range a.Dispatches {
		truth = append(truth, d.Words.Lo+r.Intn(d.Words.Hi-d.Words.Lo+1))
	}
	return truth
}

// randomBalances are of so many stations, and together 0; no one is above the most.
func randomBalances(r *rand.Rand, stations, most int) []int {
	for {
		list, total := make([]int, stations), 0
		for i := range stations - 1 {
			list[i] = few(r, 2*most) - few(r, 2*most)
			total += list[i]
		}
		list[stations-1] = -total
		if slices.Max(list) <= most && slices.Min(list) >= -most {
			r.Shuffle(stations, func(i, j int) { list[i], list[j] = list[j], list[i] })
			return list
		}
	}
}

// eachBalances calls the test with random balances, always the same ones: large ones, small ones, and such as are those of two lists.
func eachBalances(many int, test func(r *rand.Rand, balances []int)) {
	r := rand.New(rand.NewSource(35))
	for range many {
		stations, most := 1+r.Intn(api.MaxPayStations), []int{2, 5, 5, 20, api.MaxPayDebt}[r.Intn(5)]
		if stations < 3 || r.Intn(2) == 0 {
			test(r, randomBalances(r, stations, most))
			continue
		}
		first := 1 + r.Intn(stations-1)
		list := slices.Concat(randomBalances(r, first, most), randomBalances(r, stations-first, most))
		r.Shuffle(stations, func(i, j int) { list[i], list[j] = list[j], list[i] })
		test(r, list)
	}
}

// randomPayment is any one between so many stations.
func randomPayment(r *rand.Rand, stations, most int) pay.Payment {
	from := r.Intn(stations)
	return pay.Payment{From: from, To: (from + 1 + r.Intn(stations-1)) % stations, Amount: 1 + few(r, most-1)}
}

// settledBy returns the balances that the payments settle.
func settledBy(stations int, l []pay.Payment) []int {
	balances := make([]int, stations)
	for _, p := range l {
		balances[p.From] -= p.Amount
		balances[p.To] += p.Amount
	}
	return balances
}

func cloneAccount(a pay.Account) pay.Account {
	a.Dispatches = slices.Clone(a.Dispatches)
	for i, d := range a.Dispatches {
		a.Dispatches[i].Passed = slices.Clone(d.Passed)
	}
	return a
}

func cloneLists(lists [][]int) [][]int {
	list := slices.Clone(lists)
	for i, x := range list {
		list[i] = slices.Clone(x)
	}
	return list
}
