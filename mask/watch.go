package mask

import "glister/api"

// match is a record with the index of a dispatch, or with Mask.
type match struct{ record, dispatch int }

// watch is a log at work. It keeps for which records assignments can have which dispatches, and Mask.
type watch struct {
	Log
	matches map[match]bool
}

// open returns the log at work, or its error.
func open(l Log) (watch, api.Errno) {
	if e := CheckLog(l); e != api.OK {
		return watch{}, e
	}
	w := watch{Log: l, matches: map[match]bool{}}
	for record, r := range w.Records {
		_, w.matches[match{record, Mask}] = w.masked(record)
		for dispatch, s := range w.Journal {
			w.matches[match{record, dispatch}] = w.isOne(s, r)
		}
	}
	return w, api.OK
}

// openExplained returns the log at work, or the error of a call that needs an assignment.
func openExplained(l Log) (watch, api.Errno) {
	w, e := open(l)
	switch {
	case e != api.OK:
		return watch{}, e
	case !w.choices().possible():
		return watch{}, api.ErrFalse
	}
	return w, api.OK
}

// mask returns Mask alone if the record can be false, otherwise nothing.
func (w watch) mask(record int) []int {
	if w.matches[match{record, Mask}] {
		return []int{Mask}
	}
	return nil
}

// own returns the dispatches that are one of the record, rising.
func (w watch) own(record int) []int {
	var list []int
	for dispatch := range len(w.Journal) {
		if w.matches[match{record, dispatch}] {
			list = append(list, dispatch)
		}
	}
	return list
}

// sender is one that can have sent a record: it gives what assignments can have for the record then.
type sender struct{ gives func(watch, int) []int }

func falseStation() sender { return sender{watch.mask} }

func trueStation() sender { return sender{watch.own} }

// choices returns what assignments can have for each record, rising: Mask is smaller than all dispatches.
func (w watch) choices() choices {
	var c choices
	for record := range len(w.Records) {
		var list []int
		for _, s := range []sender{falseStation(), trueStation()} {
			list = append(list, s.gives(w, record)...)
		}
		c = append(c, list)
	}
	return c
}

// verdicts returns the verdicts of all records of a log that has an assignment.
func (w watch) verdicts() []int {
	var list []int
	for record := range len(w.Records) {
		switch {
		case !w.canBe(record, falseStation()):
			list = append(list, True)
		case !w.canBe(record, trueStation()):
			list = append(list, False)
		default:
			list = append(list, Open)
		}
	}
	return list
}

// canBe tells whether in some assignment the record is from the sender.
func (w watch) canBe(record int, from sender) bool {
	return w.choices().with(record, from.gives(w, record)...).possible()
}
