package pay_test

import (
	"math/rand"
	"slices"
	"testing"

	"glister/api"
	"glister/pay"
)

func sum(list []int) int {
	total := 0
	for _, n := range list {
		total += n
	}
	return total
}

// sharesOf returns what Shares does.
func sharesOf(t *testing.T, a pay.Account, dispatch, words int) []int {
	t.Helper()
	list, e := pay.Shares(a, dispatch, words)
	if e != api.OK || len(list) != len(a.Dispatches[dispatch].Passed) {
		t.Fatalf("%v: Shares of %d with %d: %v, %v", a, dispatch, words, list, e)
	}
	return list
}

// balanceOf returns what Balance does.
func balanceOf(t *testing.T, a pay.Account, truth []int) []int {
	t.Helper()
	list, e := pay.Balance(a, truth)
	if e != api.OK || len(list) != a.Stations {
		t.Fatalf("%v: Balance of %v: %v, %v", a, truth, list, e)
	}
	return list
}

// boundsOf returns what Bounds does.
func boundsOf(t *testing.T, a pay.Account) []pay.Range {
	t.Helper()
	list, e := pay.Bounds(a)
	if e != api.OK || len(list) != a.Stations {
		t.Fatalf("%v: Bounds: %v, %v", a, list, e)
	}
	return list
}

// fewest returns how many payments Settle returns, and proves that they settle.
func fewest(t *testing.T, balances []int) int {
	t.Helper()
	list, e := pay.Settle(balances)
	if e != api.OK || !pay.ProveSettled(balances, list, len(list)) || pay.ProveSettled(balances, list, len(list)-1) {
		t.Fatalf("Settle of %v: %v, %v", balances, list, e)
	}
	return len(list)
}

// P11.7, P4
func TestToThePenny(t *testing.T) {
	uneven := 0
	eachOf(large, 1000, func(r *rand.Rand, a pay.Account) {
		truth := randomTruth(r, a)
		if list := balanceOf(t, a, truth); sum(list) != 0 {
			t.Fatalf("%v: Balance of %v: %v", a, truth, list)
		}
		for i, words := range truth {
			list := sharesOf(t, a, i, words)
			if sum(list) != words*a.Rate || slices.Min(list) < 0 {
				t.Fatalf("%v: Shares of %d with %d: %v", a, i, words, list)
			}
			if words*a.Rate%len(list) > 0 {
				uneven++
			}
		}
	})
	if uneven < 300 {
		t.Errorf("only %d prices that cannot be divided", uneven)
	}
}

// P11.8, P2
func TestInEachTruth(t *testing.T) {
	wide := 0
	eachOf(large, 500, func(r *rand.Rand, a pay.Account) {
		bounds := boundsOf(t, a)
		for range 10 {
			truth := randomTruth(r, a)
			for station, balance := range balanceOf(t, a, truth) {
				if balance < bounds[station].Lo || balance > bounds[station].Hi {
					t.Fatalf("%v: Bounds: %v, but the balance of %d is %d in %v", a, bounds, station, balance, truth)
				}
			}
		}
		for station, x := range bounds {
			for _, y := range []struct {
				high bool
				want int
			}{{false, x.Lo}, {true, x.Hi}} {
				truth, e := pay.Reach(a, station, y.high)
				if e != api.OK || balanceOf(t, a, truth)[station] != y.want {
					t.Fatalf("%v: Reach of %d, %v: %v, %v, not %d", a, station, y.high, truth, e, y.want)
				}
				checkFirst(t, a, station, truth)
			}
			if x.Lo < x.Hi {
				wide++
			}
		}
	})
	if wide < 500 {
		t.Errorf("only %d balances with several values", wide)
	}
}

// checkFirst checks that with fewer words of some dispatch the station has another balance.
func checkFirst(t *testing.T, a pay.Account, station int, truth []int) {
	t.Helper()
	balance := balanceOf(t, a, truth)[station]
	for i, d := range a.Dispatches {
		other := slices.Clone(truth)
		for n := max(d.Words.Lo, truth[i]-20); n < truth[i]; n++ {
			other[i] = n
			if balanceOf(t, a, other)[station] == balance {
				t.Fatalf("%v: Reach of %d: %v, but %v is before it", a, station, truth, other)
			}
		}
	}
}

// P11.9
func TestWordsOfTruths(t *testing.T) {
	several := 0
	eachOf(large, 600, func(r *rand.Rand, a pay.Account) {
		for i, words := range randomTruth(r, a) {
			d := a.Dispatches[i]
			shares := sharesOf(t, a, i, words)
			var common []int
			for n := d.Words.Lo; n <= d.Words.Hi; n++ {
				common = append(common, n)
			}
			for place, station := range d.Passed {
				list, e := pay.Words(a, claim(i, station, shares[place]))
				if e != api.OK || !slices.IsSorted(list) || !slices.Contains(list, words) {
					t.Fatalf("%v: Words of %d for %d, %d: %v, %v, without %d", a, i, station, shares[place], list, e, words)
				}
				if len(list) > 1 {
					several++
				}
				common = slices.DeleteFunc(common, func(n int) bool { return !slices.Contains(list, n) })
			}
			if a.Rate > 0 && !slices.Equal(common, numbers(words)) {
				t.Fatalf("%v: the words %v of %d fit all shares %v", a, common, i, shares)
			}
		}
	})
	if several < 100 {
		t.Errorf("only %d claims that several words fit", several)
	}
}

// P11.10, P5
func TestFewest(t *testing.T) {
	seen := map[int]int{}
	eachBalances(2000, func(r *rand.Rand, balances []int) {
		many := fewest(t, balances)
		list, e := pay.Groups(balances)
		owing := len(slices.DeleteFunc(slices.Clone(balances), func(n int) bool { return n == 0 }))
		if e != api.OK || many != owing-len(list) || !pay.ProveGroups(balances, list, len(list)) || pay.ProveGroups(balances, list, len(list)+1) {
			t.Fatalf("Settle of %v: %d payments; Groups: %v, %v", balances, many, list, e)
		}
		seen[many]++
	})
	for many := range api.MaxPayStations {
		if seen[many] < 20 {
			t.Errorf("only so many balances with each number of payments: %v", seen)
		}
	}
}

// P11.10: any payments are tried.
func TestAnyPayments(t *testing.T) {
	r := rand.New(rand.NewSource(37))
	as, fewer := 0, 0
	for range 20000 {
		stations := 2 + r.Intn(api.MaxPayStations-1)
		var list []pay.Payment
		for range r.Intn(stations + 1) {
			list = append(list, randomPayment(r, stations, []int{3, 30, 10000}[r.Intn(3)]))
		}
		balances := settledBy(stations, list)
		if !pay.ProveSettled(balances, list, len(list)) {
			t.Fatalf("ProveSettled of %v with %v", balances, list)
		}
		switch many := fewest(t, balances); {
		case many > len(list):
			t.Fatalf("Settle of %v: %d payments, but %v settle", balances, many, list)
		case many == len(list):
			as++
		default:
			fewer++
		}
	}
	if as < 1000 || fewer < 1000 {
		t.Errorf("%d times as many payments, %d times fewer", as, fewer)
	}
}

// P11.11
func TestMoreWords(t *testing.T) {
	same, more := 0, 0
	eachOf(large, 1500, func(r *rand.Rand, a pay.Account) {
		truth := randomTruth(r, a)
		if len(truth) == 0 {
			return
		}
		i := r.Intn(len(truth))
		longer, d := slices.Clone(truth), a.Dispatches[i]
		longer[i] = min(truth[i]+1+r.Intn(3), d.Words.Hi)
		before, after := sharesOf(t, a, i, truth[i]), sharesOf(t, a, i, longer[i])
		for place := range before {
			switch {
			case after[place] < before[place]:
				t.Fatalf("%v: Shares of %d with %d: %v, with %d: %v", a, i, truth[i], before, longer[i], after)
			case after[place] == before[place]:
				same++
			default:
				more++
			}
		}
		first, second := balanceOf(t, a, truth), balanceOf(t, a, longer)
		for station := range first {
			if station == d.Payer && second[station] > first[station] || station != d.Payer && second[station] < first[station] {
				t.Fatalf("%v: Balance of %v: %v, of %v: %v", a, truth, first, longer, second)
			}
		}
	})
	if same < 100 || more < 500 {
		t.Errorf("%d shares stay the same, %d become greater", same, more)
	}
}

// P11.12
func TestOnePart(t *testing.T) {
	alone, apart := 0, 0
	eachOf(large, 1500, func(r *rand.Rand, a pay.Account) {
		for i, words := range randomTruth(r, a) {
			list := sharesOf(t, a, i, words)
			if len(list) == 1 {
				alone++
				if list[0] != words*a.Rate {
					t.Fatalf("%v: Shares of %d with %d: %v", a, i, words, list)
				}
			}
			equal := a
			equal.Keeps = 0
			list = sharesOf(t, equal, i, words)
			switch slices.Max(list) - slices.Min(list) {
			case 0:
			case 1:
				apart++
			default:
				t.Fatalf("%v: Shares of %d with %d: %v", equal, i, words, list)
			}
		}
	})
	if alone < 300 || apart < 300 {
		t.Errorf("%d dispatches that one station passed on, %d with shares that differ by a penny", alone, apart)
	}
}

// P11.13, P7
func TestAnyOrder(t *testing.T) {
	several := 0
	eachOf(large, 500, func(r *rand.Rand, a pay.Account) {
		other := cloneAccount(a)
		r.Shuffle(len(other.Dispatches), func(i, j int) {
			other.Dispatches[i], other.Dispatches[j] = other.Dispatches[j], other.Dispatches[i]
		})
		if before, after := boundsOf(t, a), boundsOf(t, other); !slices.Equal(before, after) {
			t.Fatalf("%v: Bounds: %v, in another order %v", a, before, after)
		}
		if len(a.Dispatches) > 1 {
			several++
		}
	})
	eachBalances(2000, func(r *rand.Rand, balances []int) {
		other, places := make([]int, len(balances)), r.Perm(len(balances))
		for i, place := range places {
			other[place] = balances[i]
		}
		if before, after := fewest(t, balances), fewest(t, other); before != after {
			t.Fatalf("Settle of %v: %d payments, of %v: %d", balances, before, other, after)
		}
		list, _ := pay.Settle(balances)
		for i, p := range list {
			list[i].From, list[i].To = places[p.From], places[p.To]
		}
		r.Shuffle(len(list), func(i, j int) { list[i], list[j] = list[j], list[i] })
		if !pay.ProveSettled(other, list, len(list)) {
			t.Fatalf("ProveSettled of %v with %v", other, list)
		}
	})
	if several < 200 {
		t.Errorf("only %d accounts with several dispatches", several)
	}
}

// P11.14
func TestApart(t *testing.T) {
	joined, added := 0, 0
	eachBalances(2000, func(r *rand.Rand, balances []int) {
		many := fewest(t, balances)
		negated := slices.Clone(balances)
		for i := range negated {
			negated[i] *= -1
		}
		if n := fewest(t, negated); n != many {
			t.Fatalf("Settle of %v: %d payments, of %v: %d", balances, many, negated, n)
		}
		if left := api.MaxPayStations - len(balances); left > 0 {
			more := randomBalances(r, 1+r.Intn(left), 5)
			if len(negated) <= left && r.Intn(2) == 0 {
				more = negated
			}
			both := many + fewest(t, more)
			if n := fewest(t, slices.Concat(balances, more)); n > both {
				t.Fatalf("Settle of %v and %v: %d payments, but apart %d", balances, more, n, both)
			} else if n < both {
				joined++
			}
		}
		// The payments of two lists of the same stations settle what both are together, too.
		other := randomBalances(r, len(balances), 5)
		both := many + fewest(t, other)
		for i := range other {
			other[i] += balances[i]
		}
		if slices.Max(other) > api.MaxPayDebt || slices.Min(other) < -api.MaxPayDebt {
			return
		}
		if n := fewest(t, other); n > both {
			t.Fatalf("Settle of %v: %d payments, but apart %d", other, n, both)
		} else if n < both {
			added++
		}
	})
	if joined < 20 || added < 100 {
		t.Errorf("%d times fewer payments together, %d times of the same stations", joined, added)
	}
}
