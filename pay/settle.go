package pay

import (
	"slices"

	"glister/api"
	"glister/lists"
)

// debts are balances at work.
type debts []int

// set has a bit for each of its stations.
type set int

// sums has what the balances of each set of stations are together.
type sums [1 << api.MaxPayStations]int

func (d debts) sums() sums {
	var list sums
	for station, balance := range d {
		bit := set(1) << station
		for earlier := range bit {
			list[bit|earlier] = list[earlier] + balance
		}
	}
	return list
}

// total returns what all balances are together.
func (d debts) total() int {
	total := 0
	for _, balance := range d {
		total += balance
	}
	return total
}

// owing returns the stations whose balance is not 0.
func (d debts) owing() set {
	var s set
	for station, balance := range d {
		if balance != 0 {
			s |= 1 << station
		}
	}
	return s
}

// first returns the set of the first station alone.
func (s set) first() set { return s & -s }

// stations lists those of the set, rising.
func (s set) stations() []int {
	var list []int
	for station := range api.MaxPayStations {
		if s>>station&1 == 1 {
			list = append(list, station)
		}
	}
	return list
}

// setOf returns the set of the stations.
func setOf(stations []int) set {
	var s set
	for _, station := range stations {
		s |= 1 << station
	}
	return s
}

// groups returns the best groups, by their first stations.
func (d debts) groups() []set {
	sums := d.sums()
	var divide func(left set) []set
	divide = func(left set) []set {
		var best []set
		for part := range left + 1 {
			// The group of the first station that is left comes first.
			if part&^left != 0 || part&left.first() == 0 || sums[part] != 0 {
				continue
			}
			if groups := append([]set{part}, divide(left&^part)...); len(groups) > len(best) {
				best = groups
			}
		}
		return best
	}
	return divide(d.owing())
}

// hasGroups tells whether the lists are groups of the balances.
func (d debts) hasGroups(l [][]int) bool {
	sums := d.sums()
	var grouped set
	for _, group := range l {
		if len(group) == 0 || !lists.RisesBelow(group, len(d)) {
			return false
		}
		s := setOf(group)
		if s&grouped != 0 || sums[s] != 0 {
			return false
		}
		grouped |= s
	}
	return grouped == d.owing()
}

// payments returns the fewest payments that settle. Each one ends a balance of a group, and the last one two, so that each group needs one less than it has stations.
func (d debts) payments() []Payment {
	var list []Payment
	rest := slices.Clone(d)
	for _, group := range d.groups() {
		stations := group.stations()
		p, found := rest.payment(stations)
		for found {
			list = append(list, p)
			rest.pay(p)
			p, found = rest.payment(stations)
		}
	}
	return list
}

// payment returns one that ends a balance of the stations, if some is left.
func (d debts) payment(stations []int) (p Payment, found bool) {
search:
	for _, from := range stations {
		for _, to := range stations {
			if d[from] < 0 && d[to] > 0 {
				p, found = Payment{from, to, lists.Smallest(-d[from], d[to])}, true
				break search
			}
		}
	}
	return p, found
}

// pay changes the balances to what is left of them after the payment.
func (d debts) pay(p Payment) {
	d[p.From] += p.Amount
	d[p.To] -= p.Amount
}

// isSettledBy tells whether the payments are between the stations and settle the balances.
func (d debts) isSettledBy(l []Payment) bool {
	if !lists.Every(l, d.isPayment) {
		return false
	}
	rest := slices.Clone(d)
	for _, p := range l {
		rest.pay(p)
	}
	return rest.owing() == 0
}
