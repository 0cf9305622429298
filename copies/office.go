package copies

import (
	"glister/api"
	"glister/lists"
)

// noPatience stands for the smallest patience if there is none.
const noPatience = -1

// sheet is a copy: of a dispatch, by a route.
type sheet struct{ number, route int }

// office is a post at work. It keeps the hours that its copies and its dispatches can have.
type office struct {
	Post
	copies     map[sheet]hourSet
	dispatches []hourSet
}

// open returns the post at work, or the error of a call that is about it and about entries.
func open(p Post, entries ...Entry) (office, api.Errno) {
	if e := CheckPost(p); e != api.OK {
		return office{}, e
	}
	switch {
	case len(entries) > api.MaxCopiesEntries:
		return office{}, api.ErrLimit
	case !lists.Every(entries, p.isEntry):
		return office{}, api.ErrRange
	}
	o := office{Post: p, copies: map[sheet]hourSet{}}
	for number, send := range o.Sends {
		for route, r := range o.Routes {
			o.copies[sheet{number, route}] = r.hours(send)
		}
		o.dispatches = append(o.dispatches, o.possible(number))
	}
	return o, api.OK
}

func (o office) hasCopy(number, route int) bool {
	return below(number, len(o.Sends)) && below(route, len(o.Routes))
}

// hours returns all hours at which the copy can be at the receiver, rising.
func (o office) hours(number, route int) []int {
	var list []int
	for hour := range o.copies[sheet{number, route}].all() {
		if hour != never {
			list = append(list, hour)
		}
	}
	return list
}

// possible returns all hours that the dispatch can have: those of its copies up to the hour at which one of them is there even if all are as late as they can be.
func (o office) possible(number int) hourSet {
	var set hourSet
	var lasts []int
	for route := range len(o.Routes) {
		hours := o.copies[sheet{number, route}]
		lasts = append(lasts, hours.last())
		for hour := range hours.all() {
			set[hour] = true
		}
	}
	clear(set[lists.Smallest(never, lasts...)+1:])
	return set
}

// entry returns what becomes of a dispatch that has the hour, if the one before it is finished at the hour before.
func (o office) entry(number, hour, before int) Entry {
	deadline := o.Sends[number] + o.Patience
	return Entry{Number: number, At: max(before, min(hour, deadline)), Skipped: hour > deadline}
}

// journal returns what becomes of the dispatches if they have these hours.
func (o office) journal(hours []int) []Entry {
	var list []Entry
	before := 0
	for number, hour := range hours {
		e := o.entry(number, hour, before)
		list = append(list, e)
		before = e.At
	}
	return list
}

// played returns what becomes of the dispatches in the truth.
func (o office) played(t Truth) []Entry {
	var hours []int
	for number, send := range o.Sends {
		var copies []int
		for route, r := range o.Routes {
			copies = append(copies, r.hour(send, t[number][route]))
		}
		hours = append(hours, lists.Smallest(never, copies...))
	}
	return o.journal(hours)
}

// spanEnd is an end of all spans: which of the hours that a dispatch can have leads there.
type spanEnd struct{ pick func(hourSet) int }

// at returns what becomes of the dispatches at the end of their spans.
func (o office) at(end spanEnd) []Entry {
	var hours []int
	for _, set := range o.dispatches {
		hours = append(hours, end.pick(set))
	}
	return o.journal(hours)
}

func (o office) soonest() []Entry { return o.at(spanEnd{hourSet.first}) }

func (o office) latest() []Entry { return o.at(spanEnd{hourSet.last}) }

// spans returns the spans of all dispatches.
func (o office) spans() []Range {
	var list []Range
	latest := o.latest()
	for number, e := range o.soonest() {
		list = append(list, Range{e.At, latest[number].At})
	}
	return list
}

// surely returns the dispatches that are surely delivered: those that are even with their last hours.
func (o office) surely() []int {
	var list []int
	for _, e := range o.latest() {
		if !e.Skipped {
			list = append(list, e.Number)
		}
	}
	return list
}

// least returns the smallest patience, or noPatience.
func (o office) least() int {
	found := noPatience
	// With less patience no dispatch is delivered that was skipped: below the first patience that is too small all are.
search:
	for less := range api.MaxCopiesHour + 1 {
		o.Patience = api.MaxCopiesHour - less
		for _, e := range o.latest() {
			if e.Skipped {
				break search
			}
		}
		found = o.Patience
	}
	return found
}
