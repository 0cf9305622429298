package cipher

import (
	"slices"

	"glister/api"
	"glister/lists"
)

// never stands for the day on which others can read what they never can.
const never = -1

// desk is a book at work, with the losses of its keys.
type desk struct {
	Book
	lost []Loss
}

// open returns the book at work, or the error of a call that is about it and about losses.
func open(b Book, lost ...Loss) (desk, api.Errno) {
	if e := CheckBook(b); e != api.OK {
		return desk{}, e
	}
	d := desk{Book: b, lost: lost}
	switch {
	case len(lost) > api.MaxCipherLost:
		return desk{}, api.ErrLimit
	case !lists.Every(lost, d.isLoss):
		return desk{}, api.ErrRange
	}
	return d, api.OK
}

// changed returns what the numbers become in this way, by the key of the day.
func (d desk) changed(w way, day int, numbers []int) []int {
	c := newCog(d.Keys[d.Days[day]], d.Size)
	list := make([]int, len(numbers))
	for i, n := range numbers {
		list[i] = w.change(c, n, i)
	}
	return list
}

func (d desk) coded(day int, plain []int) []int { return d.changed(way{cog.code}, day, plain) }

func (d desk) decoded(day int, codes []int) []int { return d.changed(way{cog.plain}, day, codes) }

// words returns the plain text without its nulls.
func (d desk) words(plain []int) []int { return slices.DeleteFunc(slices.Clone(plain), d.isNull) }

func (d desk) indicator(day int) int { return (d.Days[day] + day) % len(d.Keys) }

// check returns the check of the numbers that are before it.
func (d desk) check(numbers []int) int {
	sum := 0
	for i, n := range numbers {
		sum += n * (i + 1)
	}
	return sum % d.Size
}

// dispatch returns the indicator, the codes and the check.
func (d desk) dispatch(day int, plain []int) []int {
	list := slices.Concat([]int{d.indicator(day)}, d.coded(day, plain))
	return append(list, d.check(list))
}

// checkDispatch returns the error of the dispatch of the day, or OK.
func (d desk) checkDispatch(day int, dispatch []int) api.Errno {
	last := len(dispatch) - 1
	switch {
	case last < 1 || last > api.MaxCipherPlain+1 || !lists.Every(dispatch, d.isPlain):
		return api.ErrForm
	case dispatch[0] != d.indicator(day):
		return api.ErrState
	case dispatch[last] != d.check(dispatch[:last]):
		return api.ErrFalse
	}
	return api.OK
}

// taken returns the first day on which others have the key, or the number of the days if they never have it.
func (d desk) taken(key int) int {
	var days []int
	for _, l := range d.lost {
		if l.Key == key {
			days = append(days, l.Day)
		}
	}
	return least(len(d.Days), days...)
}

// exposed returns for each day the first day on which others can read its dispatches, or never.
func (d desk) exposed() []int {
	list := make([]int, len(d.Days))
	for day, key := range d.Days {
		list[day] = max(day, d.taken(key))
		if list[day] == len(d.Days) {
			list[day] = never
		}
	}
	return list
}
