package pay

import (
	"iter"
	"slices"

	"glister/api"
)

// message is a dispatch that has so many words.
type message struct{ dispatch, words int }

// ledger is an account at work. It knows the shares of messages.
type ledger struct {
	Account
	known map[message][]int
}

// open returns the account at work, or its error.
func open(a Account) (ledger, api.Errno) {
	if e := CheckAccount(a); e != api.OK {
		return ledger{}, e
	}
	return ledger{a, map[message][]int{}}, api.OK
}

// shares returns the shares of the stations that passed the message on.
func (l ledger) shares(m message) []int {
	shares, found := l.known[m]
	if !found {
		shares = l.divided(l.price(m), len(l.Dispatches[m.dispatch].Passed))
		l.known[m] = shares
	}
	return shares
}

func (a Account) price(m message) int { return m.words * a.Rate }

// divided returns the shares of so many stations of the price.
func (a Account) divided(price, many int) []int {
	kept := price * a.Keeps / hundredths
	left := price - kept
	shares := slices.Repeat([]int{left / many}, many)
	for i := range last(left%many, many) {
		shares[i]++
	}
	shares[0] += kept
	return shares
}

// last yields the indexes of so many elements at the end of a list of this length, from the last one on.
func last(some, length int) iter.Seq[int] {
	return func(yield func(int) bool) {
		for back := range some {
			if !yield(length - 1 - back) {
				return
			}
		}
	}
}

// gain returns what the message adds to the balance of the station.
func (l ledger) gain(m message, station int) int {
	d, gain := l.Dispatches[m.dispatch], 0
	if i := slices.Index(d.Passed, station); i >= 0 {
		gain += l.shares(m)[i]
	}
	if d.Payer == station {
		gain -= l.price(m)
	}
	return gain
}

// balances returns the balances of all stations in the truth.
func (l ledger) balances(truth []int) []int {
	list := make([]int, l.Stations)
	for dispatch, words := range truth {
		for station := range list {
			list[station] += l.gain(message{dispatch, words}, station)
		}
	}
	return list
}

// messages yields the dispatch with all words that it can have, rising.
func (a Account) messages(dispatch int) iter.Seq[message] {
	return func(yield func(message) bool) {
		words := a.Dispatches[dispatch].Words
		for more := range words.Hi - words.Lo + 1 {
			if !yield(message{dispatch, words.Lo + more}) {
				return
			}
		}
	}
}

// gains returns what the dispatch adds to the balance of the station, for all words that it can have.
func (l ledger) gains(dispatch, station int) []int {
	var list []int
	for m := range l.messages(dispatch) {
		list = append(list, l.gain(m, station))
	}
	return list
}

// end is one of both ends of a balance.
type end struct{ of func(Range) int }

func (r Range) low() int { return r.Lo }

func (r Range) high() int { return r.Hi }

func lowest() end { return end{Range.low} }

func highest() end { return end{Range.high} }

// among returns the end of all of them.
func (e end) among(gains []int) int { return e.of(Range{slices.Min(gains), slices.Max(gains)}) }

// balance returns the end of the balance of the station: what one dispatch adds does not depend on the others.
func (l ledger) balance(station int, e end) int {
	balance := 0
	for dispatch := range l.Dispatches {
		balance += e.among(l.gains(dispatch, station))
	}
	return balance
}

// bounds returns the bounds of the balances of all stations.
func (l ledger) bounds() []Range {
	var list []Range
	for station := range l.Stations {
		list = append(list, Range{l.balance(station, lowest()), l.balance(station, highest())})
	}
	return list
}

// truth returns the first truth in which the balance of the station is at the end.
func (l ledger) truth(station int, e end) []int {
	var list []int
	for dispatch, d := range l.Dispatches {
		gains := l.gains(dispatch, station)
		list = append(list, d.Words.Lo+slices.Index(gains, e.among(gains)))
	}
	return list
}

// fitting returns the words that fit the claim of a station that passed the dispatch on.
func (l ledger) fitting(c Claim) []int {
	var list []int
	place := slices.Index(l.Dispatches[c.Dispatch].Passed, c.Station)
	for m := range l.messages(c.Dispatch) {
		if l.shares(m)[place] == c.Pence {
			list = append(list, m.words)
		}
	}
	return list
}
