package pay_test

import (
	"math"
	"math/rand"
	"reflect"
	"slices"
	"testing"

	"glister/api"
	"glister/pay"
)

func numbers(list ...int) []int { return list }

func groups(list ...[]int) [][]int { return list }

func span(lo, hi int) pay.Range { return pay.Range{Lo: lo, Hi: hi} }

func ranges(ends ...int) []pay.Range {
	var list []pay.Range
	for i := 0; i < len(ends); i += 2 {
		list = append(list, span(ends[i], ends[i+1]))
	}
	return list
}

func dispatch(payer, lo, hi int, passed ...int) pay.Dispatch {
	return pay.Dispatch{Payer: payer, Words: span(lo, hi), Passed: passed}
}

func account(stations, rate, keeps int, list ...pay.Dispatch) pay.Account {
	return pay.Account{Stations: stations, Rate: rate, Keeps: keeps, Dispatches: list}
}

func claim(dispatch, station, pence int) pay.Claim {
	return pay.Claim{Dispatch: dispatch, Station: station, Pence: pence}
}

// paid has a payment for each three numbers.
func paid(list ...int) []pay.Payment {
	var l []pay.Payment
	for i := 0; i < len(list); i += 3 {
		l = append(l, pay.Payment{From: list[i], To: list[i+1], Amount: list[i+2]})
	}
	return l
}

// example is the account of the chapter.
func example() pay.Account {
	return account(4, 3, 10, dispatch(0, 10, 14, 1, 2, 3), dispatch(3, 7, 7, 2))
}

// owed has the balances of the chapter.
func owed() []int { return numbers(-30, 12, 30, -12) }

// changed is the example after a change.
func changed(change func(a *pay.Account)) pay.Account {
	a := example()
	change(&a)
	return a
}

// with is the example with this dispatch as the last one.
func with(d pay.Dispatch) pay.Account {
	return changed(func(a *pay.Account) { a.Dispatches[1] = d })
}

// passed is the example with these stations in the last list.
func passed(list ...int) pay.Account {
	return changed(func(a *pay.Account) { a.Dispatches[1].Passed = list })
}

// words is the example with these words of the last dispatch.
func words(lo, hi int) pay.Account { return with(dispatch(3, lo, hi, 2)) }

// full has as much of everything as an account can have.
func full() pay.Account {
	a := account(7, 20, 100)
	for range 6 {
		a.Dispatches = append(a.Dispatches, dispatch(6, 1, 200, 6, 5, 4, 3, 2))
	}
	return a
}

// input has the arguments of all calls.
type input struct {
	account         pay.Account
	dispatch, words int
	truth           []int
	station         int
	claim           pay.Claim
	balances        []int
}

// all has the results of each call that has an error.
func (in input) all() []any {
	e0 := pay.CheckAccount(in.account)
	shares, e1 := pay.Shares(in.account, in.dispatch, in.words)
	balance, e2 := pay.Balance(in.account, in.truth)
	bounds, e3 := pay.Bounds(in.account)
	low, e4 := pay.Reach(in.account, in.station, false)
	high, e5 := pay.Reach(in.account, in.station, true)
	words, e6 := pay.Words(in.account, in.claim)
	settle, e7 := pay.Settle(in.balances)
	groups, e8 := pay.Groups(in.balances)
	return []any{e0, shares, e1, balance, e2, bounds, e3, low, e4, high, e5, words, e6, settle, e7, groups, e8}
}

// errorsOf picks the errors from the results of all: CheckAccount, Shares, Balance, Bounds, Reach twice, Words, Settle, Groups.
func errorsOf(results []any) []api.Errno {
	var list []api.Errno
	for _, x := range results {
		if e, ok := x.(api.Errno); ok {
			list = append(list, e)
		}
	}
	return list
}

// failed checks that a call with an error has no other result.
func failed(t *testing.T, results []any) {
	t.Helper()
	start := 0
	for i, x := range results {
		e, ok := x.(api.Errno)
		if !ok {
			continue
		}
		if e != api.OK && slices.ContainsFunc(results[start:i], isSome) {
			t.Errorf("%v with %v in %v", results[start:i], e, results)
		}
		start = i + 1
	}
}

// isSome tells whether a result is not the zero value.
func isSome(x any) bool { return !reflect.ValueOf(x).IsZero() }

// P11.1: what an account can have.
func TestCheckAccount(t *testing.T) {
	low, high := math.MinInt, math.MaxInt
	stations := func(many int) pay.Account { return account(many, 3, 10, dispatch(0, 1, 1, 0)) }
	rate := func(rate int) pay.Account { return changed(func(a *pay.Account) { a.Rate = rate }) }
	keeps := func(keeps int) pay.Account { return changed(func(a *pay.Account) { a.Keeps = keeps }) }
	payer := func(payer int) pay.Account { return with(dispatch(payer, 7, 7, 2)) }
	dispatches := func(many int) pay.Account {
		return account(4, 3, 10, slices.Repeat(example().Dispatches[:1], many)...)
	}
	seven := func(passed ...int) pay.Account { return account(7, 3, 10, dispatch(0, 1, 1, passed...)) }
	wrong := account(-1, -1, -1, pay.Dispatch{Payer: 9, Words: span(2, 1)})
	more := func(change func(a *pay.Account)) pay.Account {
		a := cloneAccount(wrong)
		change(&a)
		return a
	}
	for _, x := range []struct {
		what string
		a    pay.Account
		want api.Errno
	}{
		{"the example", example(), api.OK}, {"a full account", full(), api.OK}, {"nothing", pay.Account{}, api.ErrArg}, {"nothing valid", wrong, api.ErrArg},
		{"no stations", account(0, 3, 10), api.ErrArg}, {"stations below 0", account(-1, 3, 10), api.ErrArg}, {"the smallest number of stations", account(low, 3, 10), api.ErrArg}, {"one station", stations(1), api.OK}, {"seven stations", stations(7), api.OK}, {"eight stations", stations(8), api.ErrLimit}, {"the greatest number of stations", stations(high), api.ErrLimit}, {"eight wrong stations", more(func(a *pay.Account) { a.Stations = 8 }), api.ErrLimit},
		{"no rate", rate(0), api.OK}, {"the greatest rate", rate(20), api.OK}, {"a rate above it", rate(21), api.ErrArg}, {"a rate below 0", rate(-1), api.ErrArg}, {"the smallest number as rate", rate(low), api.ErrArg}, {"the greatest number as rate", rate(high), api.ErrArg},
		{"keeps nothing", keeps(0), api.OK}, {"keeps all", keeps(100), api.OK}, {"keeps more than all", keeps(101), api.ErrArg}, {"keeps less than nothing", keeps(-1), api.ErrArg}, {"keeps the smallest number", keeps(low), api.ErrArg}, {"keeps the greatest number", keeps(high), api.ErrArg},
		{"no dispatches", dispatches(0), api.OK}, {"six dispatches", dispatches(6), api.OK}, {"seven dispatches", dispatches(7), api.ErrLimit}, {"seven wrong dispatches", more(func(a *pay.Account) { a.Dispatches = make([]pay.Dispatch, 7) }), api.ErrLimit},
		{"the first payer", payer(0), api.OK}, {"the last payer", payer(3), api.OK}, {"a payer after the last one", payer(4), api.ErrArg}, {"a payer below 0", payer(-1), api.ErrArg}, {"the smallest number as payer", payer(low), api.ErrArg}, {"the greatest number as payer", payer(high), api.ErrArg}, {"the first payer of two is wrong", changed(func(a *pay.Account) { a.Dispatches[0].Payer = 4 }), api.ErrArg},
		{"one word", words(1, 1), api.OK}, {"all words", words(1, 200), api.OK}, {"the most words", words(200, 200), api.OK}, {"no words", words(0, 0), api.ErrArg}, {"some words or none", words(0, 1), api.ErrArg}, {"words above the limit", words(200, 201), api.ErrArg}, {"no range of words", words(8, 7), api.ErrArg}, {"all numbers as words", words(low, high), api.ErrArg}, {"only greater words", words(201, 202), api.ErrArg}, {"the first words are wrong", changed(func(a *pay.Account) { a.Dispatches[0].Words.Lo = 0 }), api.ErrArg},
		{"nobody passed it", passed(), api.ErrArg}, {"all passed it", passed(3, 2, 1, 0), api.OK}, {"the payer passed it", passed(3), api.OK}, {"a station twice", passed(2, 2), api.ErrArg}, {"a station twice, and another one between", passed(2, 1, 2), api.ErrArg}, {"the last stations are the same", passed(0, 1, 2, 2), api.ErrArg}, {"a station after the last one", passed(1, 4), api.ErrArg}, {"a station below 0", passed(-1, 2), api.ErrArg}, {"the smallest number as station", passed(low), api.ErrArg}, {"the greatest number as station", passed(high), api.ErrArg},
		{"five passed it", seven(6, 0, 5, 1, 4), api.OK}, {"six passed it", seven(6, 0, 5, 1, 4, 2), api.ErrLimit}, {"six wrong ones passed it", more(func(a *pay.Account) { a.Dispatches[0].Passed = make([]int, 6) }), api.ErrLimit}, {"six passed the last one", more(func(a *pay.Account) { a.Dispatches = append(a.Dispatches, dispatch(0, 1, 1, make([]int, 6)...)) }), api.ErrLimit}, {"five are too many for four stations", passed(0, 1, 2, 3, 4), api.ErrArg},
	} {
		if e := pay.CheckAccount(x.a); e != x.want {
			t.Errorf("CheckAccount of %s: %v, not %v", x.what, e, x.want)
		}
	}
}

// P11.1
func TestShares(t *testing.T) {
	five := func(rate, keeps int) pay.Account {
		return account(7, rate, keeps, dispatch(0, 1, 200, 4, 2, 6, 0, 1))
	}
	for _, x := range []struct {
		what            string
		a               pay.Account
		dispatch, words int
		want            []int
	}{
		{"the fewest words of the example", example(), 0, 10, numbers(12, 9, 9)}, {"one penny that remains", example(), 0, 11, numbers(13, 10, 10)}, {"two pence that remain", example(), 0, 14, numbers(16, 13, 13)}, {"36 pence", example(), 0, 12, numbers(14, 11, 11)}, {"39 pence", example(), 0, 13, numbers(15, 12, 12)}, {"one station", example(), 1, 7, numbers(21)},
		{"no rate", five(0, 50), 0, 200, numbers(0, 0, 0, 0, 0)}, {"one penny", five(1, 0), 0, 1, numbers(0, 0, 0, 0, 1)}, {"two pence", five(1, 0), 0, 2, numbers(0, 0, 0, 1, 1)}, {"four pence", five(1, 0), 0, 4, numbers(0, 1, 1, 1, 1)}, {"five pence", five(1, 0), 0, 5, numbers(1, 1, 1, 1, 1)}, {"nine pence", five(1, 0), 0, 9, numbers(1, 2, 2, 2, 2)},
		{"a part below a penny", five(1, 99), 0, 1, numbers(0, 0, 0, 0, 1)}, {"just a penny", five(1, 50), 0, 2, numbers(1, 0, 0, 0, 1)}, {"a part of two pence", five(1, 99), 0, 2, numbers(1, 0, 0, 0, 1)}, {"keeps all", five(7, 100), 0, 3, numbers(21, 0, 0, 0, 0)}, {"keeps nearly all", five(20, 99), 0, 200, numbers(3968, 8, 8, 8, 8)}, {"keeps nothing", five(20, 0), 0, 200, numbers(800, 800, 800, 800, 800)}, {"keeps a third", five(3, 33), 0, 11, numbers(10+4, 4, 5, 5, 5)}, {"one hundredth", five(20, 1), 0, 5, numbers(1+19, 20, 20, 20, 20)}, {"one hundredth of less", five(11, 1), 0, 9, numbers(19, 20, 20, 20, 20)},
		{"one station that keeps a part", account(2, 7, 33, dispatch(0, 5, 5, 1)), 0, 5, numbers(35)}, {"one station that keeps all", account(1, 7, 100, dispatch(0, 5, 5, 0)), 0, 5, numbers(35)},
	} {
		if list, e := pay.Shares(x.a, x.dispatch, x.words); !slices.Equal(list, x.want) || e != api.OK {
			t.Errorf("Shares with %s: %v, %v, not %v", x.what, list, e, x.want)
		}
	}
}

// P11.2
func TestBalance(t *testing.T) {
	for _, x := range []struct {
		what  string
		a     pay.Account
		truth []int
		want  []int
	}{
		{"the example", example(), numbers(10, 7), numbers(-30, 12, 30, -12)}, {"more words", example(), numbers(11, 7), numbers(-33, 13, 31, -11)}, {"the most words", example(), numbers(14, 7), numbers(-42, 16, 34, -8)},
		{"no dispatches", account(3, 20, 50), nil, numbers(0, 0, 0)}, {"no rate", account(2, 0, 50, dispatch(0, 1, 9, 1)), numbers(9), numbers(0, 0)}, {"the payer alone", account(2, 5, 50, dispatch(1, 1, 9, 1)), numbers(9), numbers(0, 0)}, {"the payer and another one", account(2, 5, 50, dispatch(1, 1, 9, 1, 0)), numbers(9), numbers(12, -12)}, {"the payer last", account(2, 5, 0, dispatch(1, 1, 9, 0, 1)), numbers(9), numbers(22, -22)},
		{"two of one payer", account(3, 2, 0, dispatch(0, 1, 9, 1), dispatch(0, 1, 9, 2)), numbers(4, 5), numbers(-18, 8, 10)}, {"there and back", account(2, 2, 0, dispatch(0, 1, 9, 1), dispatch(1, 1, 9, 0)), numbers(4, 5), numbers(2, -2)}, {"a full account", full(), numbers(200, 200, 200, 200, 200, 200), numbers(0, 0, 0, 0, 0, 0, 0)}, {"one station", account(1, 20, 3, dispatch(0, 1, 200, 0)), numbers(77), numbers(0)},
	} {
		if list, e := pay.Balance(x.a, x.truth); !slices.Equal(list, x.want) || e != api.OK {
			t.Errorf("Balance with %s: %v, %v, not %v", x.what, list, e, x.want)
		}
	}
}

// P11.3
func TestBoundsAndReach(t *testing.T) {
	for _, x := range []struct {
		what      string
		a         pay.Account
		want      []pay.Range
		station   int
		low, high []int
	}{
		{"the example", example(), ranges(-42, -30, 12, 16, 30, 34, -12, -8), 0, numbers(14, 7), numbers(10, 7)}, {"a station that is paid", example(), ranges(-42, -30, 12, 16, 30, 34, -12, -8), 1, numbers(10, 7), numbers(14, 7)}, {"a payer that is paid", example(), ranges(-42, -30, 12, 16, 30, 34, -12, -8), 3, numbers(10, 7), numbers(14, 7)},
		{"no dispatches", account(2, 20, 50), ranges(0, 0, 0, 0), 1, nil, nil}, {"no rate", account(2, 0, 0, dispatch(0, 3, 9, 1)), ranges(0, 0, 0, 0), 1, numbers(3), numbers(3)}, {"a station that has nothing to do with it", account(3, 5, 0, dispatch(0, 3, 9, 1)), ranges(-45, -15, 15, 45, 0, 0), 2, numbers(3), numbers(3)}, {"the payer alone", account(1, 5, 0, dispatch(0, 3, 9, 0)), ranges(0, 0), 0, numbers(3), numbers(3)},
		{"the first of several words", account(4, 1, 0, dispatch(0, 1, 6, 1, 2, 3)), ranges(-6, -1, 0, 2, 0, 2, 1, 2), 1, numbers(1), numbers(6)}, {"several words at the top", account(4, 1, 0, dispatch(0, 1, 6, 1, 2, 3)), ranges(-6, -1, 0, 2, 0, 2, 1, 2), 3, numbers(1), numbers(4)}, {"several words at the bottom", account(4, 1, 0, dispatch(0, 2, 6, 1, 2, 3)), ranges(-6, -2, 0, 2, 1, 2, 1, 2), 2, numbers(2), numbers(5)},
		{"both ways", account(2, 2, 0, dispatch(0, 1, 3, 1), dispatch(1, 4, 6, 0)), ranges(2, 10, -10, -2), 0, numbers(3, 4), numbers(1, 6)}, {"more than one dispatch", account(3, 2, 0, dispatch(0, 1, 3, 1), dispatch(2, 5, 5, 0), dispatch(0, 4, 6, 2)), ranges(-8, 0, 2, 6, -2, 2), 0, numbers(3, 5, 6), numbers(1, 5, 4)},
	} {
		if list, e := pay.Bounds(x.a); !slices.Equal(list, x.want) || e != api.OK {
			t.Errorf("Bounds with %s: %v, %v, not %v", x.what, list, e, x.want)
		}
		if low, e := pay.Reach(x.a, x.station, false); !slices.Equal(low, x.low) || e != api.OK {
			t.Errorf("Reach of the least with %s: %v, %v, not %v", x.what, low, e, x.low)
		}
		if high, e := pay.Reach(x.a, x.station, true); !slices.Equal(high, x.high) || e != api.OK {
			t.Errorf("Reach of the most with %s: %v, %v, not %v", x.what, high, e, x.high)
		}
	}
}

// P11.4
func TestWords(t *testing.T) {
	thin := account(4, 1, 0, dispatch(0, 2, 9, 1, 2, 3))
	for _, x := range []struct {
		what string
		a    pay.Account
		c    pay.Claim
		want []int
		e    api.Errno
	}{
		{"the example", example(), claim(0, 2, 10), numbers(11), api.OK}, {"more pence", example(), claim(0, 2, 14), nil, api.ErrFalse}, {"the first station", example(), claim(0, 1, 16), numbers(14), api.OK}, {"the fewest words", example(), claim(0, 3, 9), numbers(10), api.OK}, {"fewer than the fewest", example(), claim(0, 3, 8), nil, api.ErrFalse}, {"the other dispatch", example(), claim(1, 2, 21), numbers(7), api.OK}, {"other pence of it", example(), claim(1, 2, 20), nil, api.ErrFalse},
		{"some words", thin, claim(0, 1, 1), numbers(3, 4, 5), api.OK}, {"words from the beginning", thin, claim(0, 1, 0), numbers(2), api.OK}, {"words to the end", thin, claim(0, 3, 3), numbers(7, 8, 9), api.OK}, {"more words than there can be", thin, claim(0, 3, 4), nil, api.ErrFalse}, {"any words", account(2, 0, 50, dispatch(0, 5, 8, 1)), claim(0, 1, 0), numbers(5, 6, 7, 8), api.OK}, {"nothing for all others", account(3, 20, 100, dispatch(0, 5, 7, 2, 1)), claim(0, 1, 0), numbers(5, 6, 7), api.OK}, {"the payer", account(2, 3, 0, dispatch(0, 1, 9, 0, 1)), claim(0, 0, 4), numbers(3), api.OK},
		{"pence below 0", example(), claim(0, 1, -1), nil, api.ErrFalse}, {"the smallest number of pence", example(), claim(0, 1, math.MinInt), nil, api.ErrFalse}, {"the greatest number of pence", example(), claim(0, 1, math.MaxInt), nil, api.ErrFalse},
		{"a station that did not pass it on", example(), claim(1, 1, 21), nil, api.ErrNone}, {"the payer, who did not", example(), claim(0, 0, -30), nil, api.ErrNone}, {"a station that does not exist", example(), claim(0, 4, 9), nil, api.ErrNone}, {"the smallest number as station", example(), claim(0, math.MinInt, 9), nil, api.ErrNone}, {"neither the station nor the pence", example(), claim(1, 9, 9), nil, api.ErrNone},
		{"a dispatch after the last one", example(), claim(2, 2, 10), nil, api.ErrRange}, {"a dispatch below 0", example(), claim(-1, 2, 10), nil, api.ErrRange}, {"neither dispatch nor station", example(), claim(2, 9, 10), nil, api.ErrRange}, {"the greatest number as dispatch", example(), claim(math.MaxInt, 2, 10), nil, api.ErrRange},
	} {
		if list, e := pay.Words(x.a, x.c); !slices.Equal(list, x.want) || e != x.e {
			t.Errorf("Words of %s: %v, %v, not %v, %v", x.what, list, e, x.want, x.e)
		}
	}
}

// P11.5, P11.6
func TestSettleAndGroups(t *testing.T) {
	for _, x := range []struct {
		what     string
		balances []int
		payments int
		groups   int
	}{
		{"the example", owed(), 2, 2}, {"the other example", numbers(-5, 2, 3, 0), 2, 1}, {"one station", numbers(0), 0, 0}, {"nothing owed", numbers(0, 0, 0, 0, 0, 0, 0), 0, 0}, {"one debt", numbers(0, 0, 7, 0, 0, 0, -7), 1, 1}, {"the greatest debt", numbers(100000, -100000), 1, 1}, {"three pairs", numbers(1, 2, 3, -3, -2, -1), 3, 3}, {"three pairs of the same", numbers(4, 4, 4, -4, -4, -4, 0), 3, 3},
		{"all in one group", numbers(10, 10, 10, 10, 10, -25, -25), 6, 1}, {"two threes of powers", numbers(1, 2, 4, 8, -5, -10), 4, 2}, {"a pair and three", numbers(9, -4, 5, -9, -1), 3, 2}, {"two threes", numbers(5, 7, -2, -3, -4, -3), 4, 2}, {"two threes and nothing", numbers(5, 7, 0, -2, -3, -4, -3), 4, 2}, {"two pairs and three", numbers(6, -6, -1, -2, -3, 2, 4), 4, 3}, {"three pairs, or two threes", numbers(3, -3, 1, 2, -1, -2), 3, 3}, {"a pair and five", numbers(10, -10, 1, 1, 1, 1, -4), 5, 2}, {"one who owes all", numbers(-60, 10, 10, 10, 10, 10, 10), 6, 1}, {"one to whom all is owed", numbers(-1, -2, -3, 21, -4, -5, -6), 6, 1}, {"large debts in a chain", numbers(100000, -99999, 99999, -100000, 50000, -50000), 3, 3}, {"large debts together", numbers(100000, 100000, 100000, -75000, -75000, -75000, -75000), 6, 1},
	} {
		list, e := pay.Settle(x.balances)
		if len(list) != x.payments || e != api.OK || !modelSettled(x.balances, list) {
			t.Errorf("Settle of %s: %v, %v, not %d payments", x.what, list, e, x.payments)
		}
		l, e := pay.Groups(x.balances)
		if len(l) != x.groups || e != api.OK || !modelGroups(x.balances, l) || !slices.IsSortedFunc(l, slices.Compare) {
			t.Errorf("Groups of %s: %v, %v, not %d groups", x.what, l, e, x.groups)
		}
		if !pay.ProveSettled(x.balances, list, x.payments) || pay.ProveSettled(x.balances, list, x.payments-1) || !pay.ProveGroups(x.balances, l, x.groups) || pay.ProveGroups(x.balances, l, x.groups+1) {
			t.Errorf("ProveSettled, ProveGroups of %s with %v, %v", x.what, list, l)
		}
	}
	if l, e := pay.Groups(owed()); !slices.EqualFunc(l, groups(numbers(0, 2), numbers(1, 3)), slices.Equal) || e != api.OK {
		t.Errorf("Groups of the example: %v, %v", l, e)
	}
}

// P11.5
func TestProveSettled(t *testing.T) {
	low, high := math.MinInt, math.MaxInt
	for _, x := range []struct {
		what     string
		balances []int
		l        []pay.Payment
		many     int
		want     bool
	}{
		{"the example", owed(), paid(0, 2, 30, 3, 1, 12), 2, true}, {"another order", owed(), paid(3, 1, 12, 0, 2, 30), 2, true}, {"more than are needed", owed(), paid(0, 2, 10, 3, 1, 12, 0, 2, 20), 3, true}, {"there and back", owed(), paid(0, 2, 30, 3, 1, 13, 1, 3, 1), 3, true}, {"by another station", owed(), paid(0, 1, 30, 1, 2, 30, 3, 1, 12), 3, true}, {"other payments", owed(), paid(0, 1, 12, 0, 2, 18, 3, 2, 12), 3, true},
		{"as many as one likes", owed(), paid(0, 2, 30, 3, 1, 12), high, true}, {"too many", owed(), paid(0, 2, 30, 3, 1, 12), 1, false}, {"none allowed", owed(), paid(0, 2, 30, 3, 1, 12), 0, false}, {"the smallest number allowed", owed(), paid(0, 2, 30, 3, 1, 12), low, false}, {"one penny short", owed(), paid(0, 2, 30, 3, 1, 11), 2, false}, {"one penny too much", owed(), paid(0, 2, 31, 3, 1, 12), 2, false}, {"one that is missing", owed(), paid(0, 2, 30), 2, false}, {"one twice", owed(), paid(0, 2, 30, 3, 1, 12, 3, 1, 12), 9, false}, {"the wrong way", owed(), paid(2, 0, 30, 1, 3, 12), 2, false}, {"another station", owed(), paid(0, 1, 30, 3, 2, 12), 2, false}, {"nothing paid", owed(), nil, 2, false},
		{"nothing owed", numbers(0, 0), nil, 0, true}, {"nothing owed, and below 0 allowed", numbers(0, 0), nil, -1, false}, {"in a circle", numbers(0, 0, 0), paid(0, 1, 5, 1, 2, 5, 2, 0, 5), 3, true}, {"from a station that owes nothing", numbers(-5, 0, 5), paid(0, 1, 5, 1, 2, 5), 2, true}, {"the greatest amount", numbers(-100000, 100000), paid(0, 1, 100000), 1, true},
		{"to itself", numbers(0, 0), paid(1, 1, 5), 1, false}, {"no amount", numbers(0, 0), paid(0, 1, 0), 1, false}, {"an amount below 0", numbers(-5, 5), paid(1, 0, -5), 1, false}, {"an amount above the limit", numbers(0, 0), paid(0, 1, 100001, 1, 0, 100001), 2, false}, {"the greatest numbers", numbers(0, 0), paid(0, 1, high, 1, 0, high), 2, false}, {"the smallest numbers", numbers(0, 0), paid(0, 1, low, 0, 1, low), 2, false}, {"from a station that does not exist", numbers(-5, 5), paid(2, 1, 5), 1, false}, {"to a station that does not exist", numbers(-5, 5), paid(0, 2, 5), 1, false}, {"through a station that does not exist", numbers(-5, 5), paid(0, 2, 5, 2, 1, 5), 2, false}, {"from below 0", numbers(-5, 5), paid(-1, 1, 5), 1, false}, {"to below 0", numbers(-5, 5), paid(0, -1, 5), 1, false}, {"to the smallest number", numbers(-5, 5), paid(0, low, 5), 1, false}, {"from the greatest number", numbers(-5, 5), paid(high, 1, 5), 1, false},
		{"no balances", nil, nil, 9, false}, {"eight balances", make([]int, 8), nil, 9, false}, {"balances that are not 0 together", numbers(-5, 6), paid(0, 1, 5), 9, false}, {"balances above the limit", numbers(-100001, 100001), paid(0, 1, 100000, 0, 1, 1), 9, false},
	} {
		if ok := pay.ProveSettled(x.balances, x.l, x.many); ok != x.want {
			t.Errorf("ProveSettled with %s: %v", x.what, ok)
		}
	}
}

// P11.6
func TestProveGroups(t *testing.T) {
	low, high := math.MinInt, math.MaxInt
	three := numbers(-5, 2, 3, 0)
	for _, x := range []struct {
		what     string
		balances []int
		l        [][]int
		many     int
		want     bool
	}{
		{"the example", owed(), groups(numbers(0, 2), numbers(1, 3)), 2, true}, {"another order", owed(), groups(numbers(1, 3), numbers(0, 2)), 2, true}, {"all in one", owed(), groups(numbers(0, 1, 2, 3)), 1, true}, {"too few", owed(), groups(numbers(0, 1, 2, 3)), 2, false}, {"more than asked for", owed(), groups(numbers(0, 2), numbers(1, 3)), low, true}, {"fewer than asked for", owed(), groups(numbers(0, 2), numbers(1, 3)), high, false}, {"one less asked for", owed(), groups(numbers(0, 2), numbers(1, 3)), 1, true},
		{"the other example", three, groups(numbers(0, 1, 2)), 1, true}, {"one that is missing", owed(), groups(numbers(0, 2)), 1, false}, {"none", owed(), nil, 0, false}, {"not 0 together", owed(), groups(numbers(0, 1), numbers(2, 3)), 2, false}, {"falling", owed(), groups(numbers(2, 0), numbers(1, 3)), 2, false}, {"falling at last", three, groups(numbers(0, 2, 1)), 1, false}, {"a station twice in one", owed(), groups(numbers(0, 2, 2), numbers(1, 3)), 2, false}, {"a station in two", numbers(-5, 5, 5, -5), groups(numbers(0, 1), numbers(0, 2), numbers(1, 3)), 3, false}, {"a group twice", owed(), groups(numbers(0, 2), numbers(0, 2), numbers(1, 3)), 2, false}, {"the last group twice", owed(), groups(numbers(0, 2), numbers(1, 3), numbers(1, 3)), 2, false},
		{"one with a balance of 0", three, groups(numbers(0, 1, 2, 3)), 1, false}, {"one with a balance of 0 alone", three, groups(numbers(0, 1, 2), numbers(3)), 2, false}, {"an empty group", owed(), groups(numbers(0, 2), nil, numbers(1, 3)), 2, false}, {"a station that does not exist", three, groups(numbers(0, 1, 2, 4)), 1, false}, {"a station that does not exist alone", three, groups(numbers(0, 1, 2), numbers(4)), 1, false}, {"a station below 0", three, groups(numbers(-1, 0, 1, 2)), 1, false}, {"the greatest number as station", three, groups(numbers(0, 1, 2, high)), 1, false}, {"the smallest number as station", three, groups(numbers(low, 0, 1, 2)), 1, false},
		{"nothing owed", numbers(0, 0), nil, 0, true}, {"nothing owed, and one asked for", numbers(0, 0), nil, 1, false}, {"nothing owed, and a group", numbers(0, 0), groups(numbers(0, 1)), 0, false}, {"nothing owed, and an empty group", numbers(0, 0), groups(nil), 0, false},
		{"no balances", nil, nil, 0, false}, {"eight balances", make([]int, 8), nil, 0, false}, {"balances that are not 0 together", numbers(-5, 6), groups(numbers(0, 1)), 0, false}, {"balances above the limit", numbers(-100001, 100001), groups(numbers(0, 1)), 0, false},
	} {
		if ok := pay.ProveGroups(x.balances, x.l, x.many); ok != x.want {
			t.Errorf("ProveGroups with %s: %v", x.what, ok)
		}
	}
}

// P11.1 to P11.6: the errors of all calls, in their order.
func TestErrorsInOrder(t *testing.T) {
	low, high := math.MinInt, math.MaxInt
	good := input{example(), 0, 10, numbers(10, 7), 3, claim(0, 2, 10), owed()}
	spoilt := input{pay.Account{}, 9, 9, numbers(9), 9, claim(9, 9, 9), numbers(1, 2)}
	ok, arg, range0, limit := api.OK, api.ErrArg, api.ErrRange, api.ErrLimit
	errs := func(account, shares, balance, reach, words, settle api.Errno) []api.Errno {
		return []api.Errno{account, shares, balance, account, reach, reach, words, settle, settle}
	}
	of := func(in input, change func(in *input)) input {
		change(&in)
		return in
	}
	shares := func(dispatch, words int) input {
		return of(good, func(in *input) { in.dispatch, in.words = dispatch, words })
	}
	truth := func(list ...int) input { return of(good, func(in *input) { in.truth = list }) }
	station := func(n int) input { return of(good, func(in *input) { in.station = n }) }
	balances := func(list ...int) input { return of(good, func(in *input) { in.balances = list }) }
	fine := errs(ok, ok, ok, ok, ok, ok)
	badShares, badTruth, badStation := errs(ok, range0, ok, ok, ok, ok), errs(ok, ok, range0, ok, ok, ok), errs(ok, ok, ok, range0, ok, ok)
	badBalances, longBalances := errs(ok, ok, ok, ok, ok, arg), errs(ok, ok, ok, ok, ok, limit)
	for _, x := range []struct {
		what string
		in   input
		want []api.Errno
	}{
		{"what is valid", good, fine}, {"nothing", input{}, errs(arg, arg, arg, arg, arg, arg)}, {"nothing valid", spoilt, errs(arg, arg, arg, arg, arg, arg)}, {"eight stations", of(spoilt, func(in *input) { in.account.Stations = 8 }), errs(limit, limit, limit, limit, limit, arg)}, {"only the account is valid", of(spoilt, func(in *input) { in.account = example() }), errs(ok, range0, range0, range0, range0, arg)}, {"only the account is not", of(good, func(in *input) { in.account.Keeps = 101 }), errs(arg, arg, arg, arg, arg, ok)},
		{"a wrong station of a claim", of(good, func(in *input) { in.claim = claim(0, 0, 99) }), errs(ok, ok, ok, ok, api.ErrNone, ok)}, {"wrong pence of a claim", of(good, func(in *input) { in.claim = claim(0, 2, 99) }), errs(ok, ok, ok, ok, api.ErrFalse, ok)}, {"a wrong dispatch of a claim", of(good, func(in *input) { in.claim = claim(2, 2, 10) }), errs(ok, ok, ok, ok, range0, ok)},
		{"the most words", shares(0, 14), fine}, {"too many words", shares(0, 15), badShares}, {"too few words", shares(0, 9), badShares}, {"words of the other one", shares(1, 10), badShares}, {"the last dispatch", shares(1, 7), fine}, {"a dispatch after the last one", shares(2, 7), badShares}, {"a dispatch below 0", shares(-1, 10), badShares}, {"the greatest numbers", shares(high, high), badShares}, {"the smallest numbers", shares(low, low), badShares}, {"the smallest number of words", shares(0, low), badShares}, {"the greatest number of words", shares(0, high), badShares},
		{"another truth", truth(14, 7), fine}, {"no truth", truth(), badTruth}, {"a short truth", truth(10), badTruth}, {"a long truth", truth(10, 7, 7), badTruth}, {"too few words at first", truth(9, 7), badTruth}, {"too many words at last", truth(14, 8), badTruth}, {"the smallest number in a truth", truth(10, low), badTruth}, {"the greatest number in a truth", truth(high, 7), badTruth},
		{"the first station", station(0), fine}, {"a station after the last one", station(4), badStation}, {"a station below 0", station(-1), badStation}, {"the smallest number as station", station(low), badStation}, {"the greatest number as station", station(high), badStation},
		{"one balance", balances(0), fine}, {"seven balances", balances(0, 0, 0, 0, 0, 0, 0), fine}, {"eight balances", balances(0, 0, 0, 0, 0, 0, 0, 0), longBalances}, {"eight wrong balances", balances(1, low, high, 1, 1, 1, 1, 1), longBalances}, {"no balances", balances(), badBalances}, {"balances below 0", balances(-1, 0), badBalances}, {"balances above 0", balances(5, -4), badBalances}, {"one balance that is not 0", balances(1), badBalances},
		{"the greatest balances", balances(100000, -100000), fine}, {"a balance above the limit", balances(100001, -100000, -1), badBalances}, {"a balance below the limit", balances(100000, 1, -100001), badBalances}, {"the greatest number as balance", balances(high, -high), badBalances}, {"the smallest number as balance", balances(low, low), badBalances}, {"balances that are 0 if they overflow", balances(low, high, 1), badBalances},
	} {
		results := x.in.all()
		if list := errorsOf(results); !slices.Equal(list, x.want) {
			t.Errorf("%s: %v, not %v", x.what, list, x.want)
		}
		failed(t, results)
	}
}

// P11.1, P11.2, P11.4: random accounts.
func TestAccountsAsTheModel(t *testing.T) {
	several, never := 0, 0
	eachOf(large, 600, func(r *rand.Rand, a pay.Account) {
		truth := randomTruth(r, a)
		want := modelBalance(a, truth)
		if list, e := pay.Balance(a, truth); !slices.Equal(list, want) || e != api.OK {
			t.Fatalf("%v: Balance of %v: %v, %v, not %v", a, truth, list, e, want)
		}
		for i, d := range a.Dispatches {
			want := modelShares(a, d.Passed, truth[i])
			if list, e := pay.Shares(a, i, truth[i]); !slices.Equal(list, want) || e != api.OK {
				t.Fatalf("%v: Shares of %d with %d: %v, %v, not %v", a, i, truth[i], list, e, want)
			}
			place := r.Intn(len(d.Passed))
			c := claim(i, d.Passed[place], want[place]+few(r, 2))
			fitting := modelWords(a, c)
			list, e := pay.Words(a, c)
			if !slices.Equal(list, fitting) || (e == api.OK) != (len(fitting) > 0) || e != api.OK && e != api.ErrFalse {
				t.Fatalf("%v: Words of %v: %v, %v, not %v", a, c, list, e, fitting)
			}
			switch {
			case len(fitting) == 0:
				never++
			case len(fitting) > 1 && a.Rate > 0:
				several++
			}
		}
	})
	if several < 50 || never < 50 {
		t.Errorf("%d claims with several words, %d with none", several, never)
	}
}

// P11.3: all truths are tried.
func TestReachAsTheModel(t *testing.T) {
	inside := 0
	eachOf(small, 600, func(r *rand.Rand, a pay.Account) {
		bounds, e := pay.Bounds(a)
		if len(bounds) != a.Stations || e != api.OK {
			t.Fatalf("%v: Bounds: %v, %v", a, bounds, e)
		}
		for station, want := range modelReach(a) {
			low, e := pay.Reach(a, station, false)
			high, f := pay.Reach(a, station, true)
			if bounds[station] != want.bounds || !slices.Equal(low, want.low) || !slices.Equal(high, want.high) || e != api.OK || f != api.OK {
				t.Fatalf("%v: Bounds, Reach of %d: %v; %v, %v; %v, %v; not %v", a, station, bounds[station], low, e, high, f, want)
			}
			for i, words := range high {
				if d := a.Dispatches[i].Words; words > d.Lo && words < d.Hi {
					inside++
				}
			}
		}
	})
	if inside < 20 {
		t.Errorf("only %d dispatches whose words are inside their range", inside)
	}
}

// P11.5: all payments are made from each of the balances.
func TestSettleAsTheModel(t *testing.T) {
	for _, x := range []struct{ stations, most, inner int }{{3, 6, 9}, {4, 4, 6}, {5, 3, 5}} {
		lengths := map[int]int{}
		for known, want := range modelFewest(x.stations, x.inner) {
			balances := known[:x.stations]
			if slices.Max(balances) > x.most || slices.Min(balances) < -x.most {
				continue
			}
			list, e := pay.Settle(balances)
			if len(list) != want || e != api.OK || !pay.ProveSettled(balances, list, want) || pay.ProveSettled(balances, list, want-1) {
				t.Fatalf("Settle of %v: %v, %v, not %d payments", balances, list, e, want)
			}
			lengths[want]++
		}
		for want := range x.stations {
			if lengths[want] < 1 || want > 0 && lengths[want] < 6 {
				t.Errorf("only so many balances with each number of payments: %v", lengths)
			}
		}
	}
}

// P11.6: each station is tried in each group.
func TestGroupsAsTheModel(t *testing.T) {
	lengths := map[int]int{}
	eachBalances(2000, func(r *rand.Rand, balances []int) {
		want := modelMost(balances)
		list, e := pay.Groups(balances)
		if len(list) != want || e != api.OK || !modelGroups(balances, list) {
			t.Fatalf("Groups of %v: %v, %v, not %d groups", balances, list, e, want)
		}
		for i := 1; i < len(list); i++ {
			if list[i-1][0] >= list[i][0] {
				t.Fatalf("Groups of %v: %v", balances, list)
			}
		}
		lengths[want]++
	})
	for many := range 4 {
		if lengths[many] < 50 {
			t.Errorf("only so many balances with each number of groups: %v", lengths)
		}
	}
}

// P11.5, P11.6: random payments and lists.
func TestProofsAsTheModel(t *testing.T) {
	seen := map[[2]bool]int{}
	eachBalances(6000, func(r *rand.Rand, balances []int) {
		stations := len(balances)
		if stations == 1 {
			return
		}
		list, _ := pay.Settle(balances)
		for range r.Intn(3) {
			p := randomPayment(r, stations, 9)
			list = append(list, p, pay.Payment{From: p.To, To: p.From, Amount: p.Amount})
		}
		r.Shuffle(len(list), func(i, j int) { list[i], list[j] = list[j], list[i] })
		if len(list) > 0 && r.Intn(3) == 0 {
			list[r.Intn(len(list))] = pay.Payment{From: r.Intn(stations+2) - 1, To: r.Intn(stations+2) - 1, Amount: r.Intn(4)}
		}
		many := len(list) + r.Intn(3) - 1
		want := modelSettled(balances, list)
		if ok := pay.ProveSettled(balances, list, many); ok != (want && many >= len(list)) {
			t.Fatalf("ProveSettled of %v, %v, %d: %v", balances, list, many, ok)
		}
		l, _ := pay.Groups(balances)
		for range r.Intn(2) {
			l = stirred(r, l, stations)
		}
		least := len(l) + r.Intn(3) - 1
		are := modelGroups(balances, l)
		if ok := pay.ProveGroups(balances, l, least); ok != (are && least <= len(l)) {
			t.Fatalf("ProveGroups of %v, %v, %d: %v", balances, l, least, ok)
		}
		seen[[2]bool{want, are}]++
	})
	for _, settled := range []bool{false, true} {
		for _, grouped := range []bool{false, true} {
			if seen[[2]bool{settled, grouped}] < 200 {
				t.Errorf("only so many times settled, and groups: %v", seen)
			}
		}
	}
}

// stirred has two groups together, or another order, or a group less, or a station more.
func stirred(r *rand.Rand, l [][]int, stations int) [][]int {
	l = cloneLists(l)
	if len(l) == 0 {
		return append(l, numbers(r.Intn(stations)))
	}
	last := len(l) - 1
	switch r.Intn(4) {
	case 0:
		l[0] = slices.Concat(l[0], l[last])
		if slices.Sort(l[0]); last > 0 {
			l = l[:last]
		}
	case 1:
		slices.Reverse(l)
	case 2:
		l = l[:last]
	case 3:
		l[last] = append(l[last], r.Intn(stations+1))
	}
	return l
}

// P1: whatever the arguments are, each call returns, and with an error it has no other result.
func TestAnyArguments(t *testing.T) {
	r := rand.New(rand.NewSource(36))
	some := func() int {
		return []int{math.MinInt, -100001, -2, -1, 0, 0, 1, 1, 2, 3, 4, 5, 6, 7, 8, 20, 100, 200, 100001, math.MaxInt}[r.Intn(20)]
	}
	list := func(most int) []int {
		var list []int
		for range r.Intn(most + 1) {
			list = append(list, some())
		}
		return list
	}
	valid := 0
	for range 6000 {
		a := randomAccount(r, large)
		in := input{a, 0, 1, randomTruth(r, a), r.Intn(a.Stations), claim(r.Intn(6), r.Intn(7), r.Intn(99)), randomBalances(r, 1+r.Intn(7), 9)}
		if len(in.truth) > 0 {
			in.words = in.truth[0]
		}
		switch r.Intn(10) {
		case 0:
			in.account.Stations = some()
		case 1:
			in.account.Rate, in.account.Keeps = some(), some()
		case 2:
			in.account.Dispatches = append(in.account.Dispatches, dispatch(some(), some(), some(), list(6)...))
		case 3:
			in.account.Dispatches = make([]pay.Dispatch, r.Intn(8))
		case 4:
			in.dispatch, in.words = some(), some()
		case 5:
			in.truth = list(7)
		case 6:
			in.station, in.claim = some(), claim(some(), some(), some())
		case 7:
			in.balances = list(9)
		}
		results := in.all()
		failed(t, results)
		pay.ProveSettled(in.balances, paid(some(), some(), some(), some(), some(), some()), some())
		pay.ProveGroups(in.balances, groups(list(8), list(8)), some())
		if !slices.ContainsFunc(errorsOf(results), func(e api.Errno) bool { return e == api.ErrArg || e == api.ErrLimit || e == api.ErrRange }) {
			valid++
		}
	}
	if valid < 500 || valid > 4000 {
		t.Errorf("%d times all arguments are valid", valid)
	}
}

// R4: arguments are not written to, and results are in memory of their own.
func TestMemory(t *testing.T) {
	for _, balances := range [][]int{owed(), numbers(1, 2, 3, -3, -2, -1), numbers(0, 0), numbers(1, 2)} {
		make0 := func() input {
			return input{example(), 0, 11, numbers(10, 7), 1, claim(0, 2, 10), slices.Clone(balances)}
		}
		in, kept := make0(), make0()
		first, again := in.all(), in.all()
		settle, _ := pay.Settle(in.balances)
		list, _ := pay.Groups(in.balances)
		proofs := func() (bool, bool) {
			return pay.ProveSettled(in.balances, settle, 9), pay.ProveGroups(in.balances, list, 0)
		}
		settled, grouped := proofs()
		if s, g := proofs(); s != settled || g != grouped || !reflect.DeepEqual(in, kept) {
			t.Fatalf("arguments became %v; %v, %v", in, s, g)
		}
		fill(t, lists(first), lists(again))
		if !reflect.DeepEqual(in, kept) || !reflect.DeepEqual(in.all(), again) {
			t.Errorf("%v: the arguments, or later results, changed with the results", balances)
		}
	}
	balances, truth := numbers(-2, 2, 7), numbers(10, 7, 99)
	pay.Settle(balances[:2])
	pay.Groups(balances[:2])
	pay.ProveSettled(balances[:2], paid(0, 1, 2), 1)
	pay.Balance(example(), truth[:2])
	if balances[2] != 7 || truth[2] != 99 {
		t.Errorf("behind arguments there are %v, %v", balances, truth)
	}
}

// lists has all lists of the results, also those in lists.
func lists(results []any) []any {
	var all []any
	for _, x := range results {
		switch list := x.(type) {
		case [][]int:
			for _, group := range list {
				all = append(all, group)
			}
			all = append(all, list)
		case []int, []pay.Range, []pay.Payment:
			all = append(all, list)
		}
	}
	return all
}

// fill fills all lists, those behind their ends included, one by one; no other one after it may change.
func fill(t *testing.T, results, want []any) {
	t.Helper()
	for i, x := range results {
		switch list := x.(type) {
		case []int:
			for j := range list[:cap(list)] {
				list[:cap(list)][j] = 99
			}
		case [][]int:
			clear(list[:cap(list)])
		case []pay.Range:
			for j := range list[:cap(list)] {
				list[:cap(list)][j] = span(99, 99)
			}
		case []pay.Payment:
			clear(list[:cap(list)])
		}
		for j, y := range results[i+1:] {
			if _, ok := y.([][]int); !ok && !reflect.DeepEqual(y, want[i+1+j]) {
				t.Errorf("the result %d became %v with %d", i+1+j, y, i)
			}
		}
	}
}
