package lamp

import "slices"

// task is a search for one list of a plan whose other list is known: which numbers a night can have in it, what the plan then has for the night, and what the number is worth.
type task struct {
	numbers func(Night) Range
	share   func(night, number int) share
	worth   func(n Night, number int) int
}

// delivery looks for the fewest cans with these wicks.
func (s Store) delivery(wicks []int) task {
	return task{
		numbers: Night.cans,
		share:   func(night, number int) share { return share{number, wicks[night]} },
		worth:   func(n Night, number int) int { return -number },
	}
}

// trimming looks for the wicks with the most light with these cans.
func (s Store) trimming(cans []int) task {
	return task{
		numbers: Night.wicks,
		share:   func(night, number int) share { return share{cans[night], number} },
		worth:   func(n Night, number int) int { return n.Hours * number },
	}
}

// best returns the list with which the plan is safe that is worth the most; of several, the one that is lexicographically first.
func (s Store) best(of task) (list []int, worth int, ok bool) {
	var extend func(chosen []int, oil, sum int)
	extend = func(chosen []int, oil, sum int) {
		night := len(chosen)
		if night == len(s.Nights) {
			if !ok || sum > worth {
				list, worth, ok = chosen, sum, true
			}
			return
		}
		n := s.Nights[night]
		numbers := of.numbers(n)
		for number := numbers.Lo; number <= numbers.Hi; number++ {
			// The least oil that there can be decides whether the plan is still safe.
			if left, _, lit := s.pass(evening{night, oil}, of.share(night, number), most().of(n.Burn)); lit {
				extend(slices.Concat(chosen, []int{number}), left, sum+of.worth(n, number))
			}
		}
	}
	extend(nil, s.Start.Lo, 0)
	return list, worth, ok
}
