package pay

import (
	"slices"

	"glister/api"
	"glister/lists"
)

// hundredths is how many of them are all of a price.
const hundredths = 100

// exceeds tells whether the account has more of something than its limit.
func (a Account) exceeds() bool {
	return a.Stations > api.MaxPayStations || len(a.Dispatches) > api.MaxPayDispatches || slices.ContainsFunc(a.Dispatches, Dispatch.exceeds)
}

func (d Dispatch) exceeds() bool { return len(d.Passed) > api.MaxPayPassed }

// valid tells whether an account that exceeds no limit is as the document describes.
func (a Account) valid() bool {
	return a.Stations > 0 && Range{0, api.MaxPayRate}.has(a.Rate) && Range{0, hundredths}.has(a.Keeps) && lists.Every(a.Dispatches, a.isDispatch)
}

// isDispatch tells whether the dispatch can be one of the account.
func (a Account) isDispatch(d Dispatch) bool {
	return a.stations().has(d.Payer) && Range{1, api.MaxPayWords}.holds(d.Words) &&
		len(d.Passed) > 0 && lists.Every(d.Passed, a.stations().has) && isEachOnce(d.Passed)
}

// isEachOnce tells whether no element is in the list twice.
func isEachOnce(list []int) bool {
	for i, n := range list {
		if slices.Contains(list[:i], n) {
			return false
		}
	}
	return true
}

// stations returns the numbers of the stations.
func (a Account) stations() Range { return Range{0, a.Stations - 1} }

// dispatches returns the numbers of the dispatches.
func (a Account) dispatches() Range { return Range{0, len(a.Dispatches) - 1} }

// has tells whether the account has the dispatch, and it can have these words.
func (a Account) has(m message) bool {
	return a.dispatches().has(m.dispatch) && a.Dispatches[m.dispatch].Words.has(m.words)
}

// hasTruth tells whether the list is a truth of the account.
func (a Account) hasTruth(truth []int) bool {
	if len(truth) != len(a.Dispatches) {
		return false
	}
	for dispatch, words := range truth {
		if !a.has(message{dispatch, words}) {
			return false
		}
	}
	return true
}

// owed returns the balances at work, or their error.
func owed(balances []int) (debts, api.Errno) {
	d := debts(balances)
	switch {
	case len(d) > api.MaxPayStations:
		return nil, api.ErrLimit
	case len(d) == 0 || !lists.Every(d, Range{-api.MaxPayDebt, api.MaxPayDebt}.has) || d.total() != 0:
		return nil, api.ErrArg
	}
	return d, api.OK
}

// isPayment tells whether the payment can be one between the stations.
func (d debts) isPayment(p Payment) bool {
	stations := Range{0, len(d) - 1}
	return stations.has(p.From) && stations.has(p.To) && p.From != p.To && Range{1, api.MaxPayDebt}.has(p.Amount)
}

// has tells whether the number is one of the range.
func (r Range) has(n int) bool { return r.Lo <= n && n <= r.Hi }

// holds tells whether the other one is a range, with both ends in this one.
func (r Range) holds(other Range) bool {
	return other.Lo <= other.Hi && r.has(other.Lo) && r.has(other.Hi)
}
