package mask_test

import (
	"math/rand"
	"slices"
	"testing"

	"glister/api"
	"glister/mask"
)

// ownOf returns the dispatches that are one of a record of a valid log.
func ownOf(t *testing.T, l mask.Log, record int) []int {
	t.Helper()
	list, e := mask.Own(l, record)
	if e != api.OK {
		t.Fatalf("%v: Own of %d: %v, %v", l, record, list, e)
	}
	return list
}

// heardOf returns what the false station of a valid log can send at an hour.
func heardOf(t *testing.T, l mask.Log, hour int) [][]int {
	t.Helper()
	list, e := mask.Heard(l, hour)
	if e != api.OK {
		t.Fatalf("%v: Heard at %d: %v, %v", l, hour, list, e)
	}
	return list
}

// canBeFalse tells whether a record of a valid log can be false.
func canBeFalse(t *testing.T, l mask.Log, record int) bool {
	t.Helper()
	text, e := mask.Masked(l, record)
	if (e == api.OK) != (len(text) > 0) || e != api.OK && e != api.ErrNone {
		t.Fatalf("%v: Masked of %d: %v, %v", l, record, text, e)
	}
	return e == api.OK
}

// verdictsOf returns the verdicts of a valid log, or none if it has no assignment.
func verdictsOf(t *testing.T, l mask.Log) ([]int, bool) {
	t.Helper()
	list, e := mask.Verdicts(l)
	if e != api.OK && (e != api.ErrFalse || list != nil) || e == api.OK && len(list) != len(l.Records) {
		t.Fatalf("%v: Verdicts %v, %v", l, list, e)
	}
	return list, e == api.OK
}

// bestOf returns the best assignment of a log that has one.
func bestOf(t *testing.T, l mask.Log) []int {
	t.Helper()
	by, e := mask.Assign(l)
	if e != api.OK || !mask.ProveAssignment(l, by) {
		t.Fatalf("%v: Assign %v, %v", l, by, e)
	}
	return by
}

// leaveOf returns the smallest set of a valid log.
func leaveOf(t *testing.T, l mask.Log) []int {
	t.Helper()
	list, e := mask.Leave(l)
	if e != api.OK {
		t.Fatalf("%v: Leave %v, %v", l, list, e)
	}
	return list
}

// hasAll tells whether all texts of the other list are in this one.
func hasAll(list, others [][]int) bool {
	return !slices.ContainsFunc(others, func(text []int) bool { return !hasText(list, text) })
}

func hasText(list [][]int, text []int) bool {
	return slices.ContainsFunc(list, func(other []int) bool { return slices.Equal(text, other) })
}

// happened makes a log of which it knows where its records came from.
func happened(r *rand.Rand, s scale) (mask.Log, []int) {
	l := randomStations(r, s)
	for range 1 + r.Intn(s.sent) {
		l.Journal = append(l.Journal, randomSent(r, l, s))
	}
	var by []int
	for _, dispatch := range r.Perm(len(l.Journal)) {
		if len(by) == s.records {
			break
		}
		from := l.Journal[dispatch]
		x := mask.Record{Hour: from.Hour, Station: from.Station}
		text := from.Text
		switch sees := l.Sees[from.Station]; {
		case r.Intn(4) == 0:
			continue
		case r.Intn(2) == 0 && sees != mask.Never && sees <= from.Hour && from.Hour < s.hours-1:
			x.Hour, x.Station = from.Hour+1+r.Intn(s.hours-1-from.Hour), r.Intn(len(l.Sees))
			text, dispatch = randomPart(r, text), mask.Mask
		}
		x.Read = misread(r, modelSigns(l.Code, text), l.Errors)
		l.Records, by = append(l.Records, x), append(by, dispatch)
	}
	return l, by
}

// P6.6
func TestWhatHappened(t *testing.T) {
	r := rand.New(rand.NewSource(17))
	another, masks := 0, 0
	for i := range 1500 {
		l, by := happened(r, []scale{large, dense, small}[i%3])
		verdicts, ok := verdictsOf(t, l)
		if !ok || !mask.ProveAssignment(l, by) || len(leaveOf(t, l)) > 0 {
			t.Fatalf("%v: %v is no assignment", l, by)
		}
		for record, n := range by {
			if n == mask.Mask && verdicts[record] == mask.True || n != mask.Mask && verdicts[record] == mask.False {
				t.Fatalf("%v: Verdicts %v, but %v happened", l, verdicts, by)
			}
		}
		best := bestOf(t, l)
		if masksIn(best) > masksIn(by) {
			t.Fatalf("%v: Assign %v, but %v happened", l, best, by)
		}
		if !slices.Equal(best, by) {
			another++
		}
		masks += masksIn(by)
	}
	if another < 100 || masks < 300 {
		t.Errorf("only %d best assignments that did not happen, %d false records", another, masks)
	}
}

// P6.7: any assignment is tried.
func TestFewest(t *testing.T) {
	worse, later := 0, 0
	eachSmall(1500, func(r *rand.Rand, l mask.Log) {
		if _, ok := verdictsOf(t, l); !ok {
			return
		}
		best := bestOf(t, l)
		eachList(len(l.Records), len(l.Journal)-1, func(by []int) {
			if slices.Equal(by, best) || !mask.ProveAssignment(l, by) {
				return
			}
			switch {
			case masksIn(by) > masksIn(best):
				worse++
			case masksIn(by) == masksIn(best) && slices.Compare(by, best) > 0:
				later++
			default:
				t.Fatalf("%v: Assign %v, but %v is better", l, best, by)
			}
		})
	})
	if worse < 30 || later < 30 {
		t.Errorf("only %d assignments with more false records, %d that are later", worse, later)
	}
}

// isOpenTo tells whether some assignment, of all that there are, has a dispatch for the record.
func isOpenTo(l mask.Log, record int) bool {
	found := false
	eachList(len(l.Records), len(l.Journal)-1, func(by []int) {
		found = found || by[record] != mask.Mask && mask.ProveAssignment(l, by)
	})
	return found
}

// P6.8
func TestVerdicts(t *testing.T) {
	counts := map[int]int{}
	eachSmall(400, func(r *rand.Rand, l mask.Log) {
		verdicts, ok := verdictsOf(t, l)
		if !ok {
			return
		}
		for record, verdict := range verdicts {
			counts[verdict]++
			if len(ownOf(t, l, record)) == 0 && verdict != mask.False {
				t.Fatalf("%v: Verdicts %v, but no dispatch is one of %d", l, verdicts, record)
			}
			if !canBeFalse(t, l, record) && verdict != mask.True {
				t.Fatalf("%v: Verdicts %v, but %d cannot be false", l, verdicts, record)
			}
			if isOpenTo(l, record) != (verdict != mask.False) {
				t.Fatalf("%v: Verdicts %v, but it differs of %d", l, verdicts, record)
			}
		}
	})
	for verdict := mask.True; verdict <= mask.Open; verdict++ {
		if counts[verdict] < 15 {
			t.Errorf("only so many of each verdict: %v", counts)
		}
	}
}

// P6.9
func TestMoreErrors(t *testing.T) {
	own, masked, fewer := 0, 0, 0
	eachLog(1500, func(r *rand.Rand, l mask.Log) {
		more := l
		more.Errors = l.Errors + r.Intn(api.MaxFlashErrors-l.Errors+1)
		for record := range l.Records {
			before, after := ownOf(t, l, record), ownOf(t, more, record)
			if slices.ContainsFunc(before, func(n int) bool { return !slices.Contains(after, n) }) {
				t.Fatalf("%v: Own of %d: %v, with %d errors: %v", l, record, before, more.Errors, after)
			}
			own += len(after) - len(before)
			was, is := canBeFalse(t, l, record), canBeFalse(t, more, record)
			if was && !is {
				t.Fatalf("%v: %d can be false, but not with %d errors", l, record, more.Errors)
			}
			if is && !was {
				masked++
			}
		}
		before, after := leaveOf(t, l), leaveOf(t, more)
		if len(after) > len(before) {
			t.Fatalf("%v: Leave %v, with %d errors: %v", l, before, more.Errors, after)
		}
		if len(after) < len(before) {
			fewer++
		}
	})
	if own < 150 || masked < 20 || fewer < 50 {
		t.Errorf("with more errors only %d dispatches, %d records that can be false, %d sets that are smaller", own, masked, fewer)
	}
}

// P6.10
func TestSeesMore(t *testing.T) {
	heard, fewer := 0, 0
	eachLog(1000, func(r *rand.Rand, l mask.Log) {
		more, none := cloneLog(l), cloneLog(l)
		station := r.Intn(len(l.Sees))
		if sees := l.Sees[station]; sees == mask.Never {
			more.Sees[station] = r.Intn(api.MaxMaskHour + 1)
		} else {
			more.Sees[station] = r.Intn(sees + 1)
		}
		hour := r.Intn(api.MaxMaskHour + 1)
		before, after := heardOf(t, l, hour), heardOf(t, more, hour)
		if !hasAll(after, before) {
			t.Fatalf("%v: Heard at %d: %v, with %v: %v", l, hour, before, more.Sees, after)
		}
		if len(after) > len(before) {
			heard++
		}
		few, many := leaveOf(t, more), leaveOf(t, l)
		if len(few) > len(many) {
			t.Fatalf("%v: Leave %v, with %v: %v", l, many, more.Sees, few)
		}
		if len(few) < len(many) {
			fewer++
		}
		for i := range none.Sees {
			none.Sees[i] = mask.Never
		}
		for record := range none.Records {
			if canBeFalse(t, none, record) {
				t.Fatalf("%v: %d can be false", none, record)
			}
		}
		if list := heardOf(t, none, hour); len(list) > 0 {
			t.Fatalf("%v: Heard at %d: %v", none, hour, list)
		}
	})
	if heard < 50 || fewer < 30 {
		t.Errorf("only %d hours with more texts, %d sets that are smaller", heard, fewer)
	}
}

// P6.11
func TestLater(t *testing.T) {
	more := 0
	eachLog(300, func(r *rand.Rand, l mask.Log) {
		before := heardOf(t, l, 0)
		if len(before) > 0 {
			t.Fatalf("%v: Heard at 0: %v", l, before)
		}
		for hour := 1; hour <= api.MaxMaskHour; hour++ {
			after := heardOf(t, l, hour)
			if !hasAll(after, before) {
				t.Fatalf("%v: Heard at %d: %v, but before it %v", l, hour, after, before)
			}
			more += len(after) - len(before)
			before = after
		}
	})
	if more < 1000 {
		t.Errorf("only %d more texts", more)
	}
}

// P6.12: wherever the record is added.
func TestOneMoreRecord(t *testing.T) {
	more, sure := 0, 0
	eachLog(1000, func(r *rand.Rand, l mask.Log) {
		if len(l.Records) == api.MaxMaskRecords {
			return
		}
		other, at := l, r.Intn(len(l.Records)+1)
		other.Records = slices.Insert(slices.Clone(l.Records), at, randomRecord(r, l, scale{hours: 4}))
		few, many := leaveOf(t, l), leaveOf(t, other)
		if len(many) < len(few) {
			t.Fatalf("%v: Leave %v; %v: %v", l, few, other, many)
		}
		if len(many) > len(few) {
			more++
		}
		before, _ := verdictsOf(t, l)
		after, ok := verdictsOf(t, other)
		if !ok {
			return
		}
		after = slices.Delete(slices.Clone(after), at, at+1)
		for record, verdict := range before {
			switch {
			case verdict != mask.Open && after[record] != verdict:
				t.Fatalf("%v: Verdicts %v; %v: %v", l, before, other, after)
			case verdict != mask.Open:
				sure++
			}
		}
	})
	if more < 100 || sure < 100 {
		t.Errorf("only %d sets that are larger, %d sure verdicts", more, sure)
	}
}

// P6.13: any list that is shorter is tried, and any that is as long and before the smallest set.
func TestLeftOut(t *testing.T) {
	long := 0
	eachLog(300, func(r *rand.Rand, l mask.Log) {
		found := leaveOf(t, l)
		if _, ok := verdictsOf(t, leaveOut(l, found)); !ok || !slices.IsSorted(found) {
			t.Fatalf("%v: Leave %v, but without it there is no assignment", l, found)
		}
		eachSet(len(l.Records), func(list []int) {
			if len(list) > len(found) || len(list) == len(found) && slices.Compare(list, found) >= 0 {
				return
			}
			if _, ok := verdictsOf(t, leaveOut(l, list)); ok {
				t.Fatalf("%v: Leave %v, but without %v there is an assignment", l, found, list)
			}
		})
		if len(found) > 1 {
			long++
		}
	})
	if long < 50 {
		t.Errorf("only %d sets of several records", long)
	}
}

// P6.14, P7: the order of dispatches, and that of records, does not matter, except for indexes.
func TestAnyOrder(t *testing.T) {
	open := 0
	eachLog(800, func(r *rand.Rand, l mask.Log) {
		other, moved := cloneLog(l), cloneLog(l)
		r.Shuffle(len(other.Journal), func(i, j int) {
			other.Journal[i], other.Journal[j] = other.Journal[j], other.Journal[i]
		})
		order := r.Perm(len(l.Records))
		for record, i := range order {
			moved.Records[record] = l.Records[i]
		}
		hour := r.Intn(api.MaxMaskHour + 1)
		if !equalTexts(heardOf(t, l, hour), heardOf(t, other, hour)) || !slices.Equal(leaveOf(t, l), leaveOf(t, other)) || len(leaveOf(t, l)) != len(leaveOf(t, moved)) {
			t.Fatalf("%v: other results in another order", l)
		}
		verdicts, ok := verdictsOf(t, l)
		others, can := verdictsOf(t, other)
		again, may := verdictsOf(t, moved)
		if can != ok || may != ok || !slices.Equal(others, verdicts) {
			t.Fatalf("%v: Verdicts %v, in another order %v, %v", l, verdicts, others, again)
		}
		for record, verdict := range again {
			if verdict != verdicts[order[record]] {
				t.Fatalf("%v: Verdicts %v, in the order %v: %v", l, verdicts, order, again)
			}
			if verdict == mask.Open {
				open++
			}
		}
		if !ok {
			return
		}
		if masks := masksIn(bestOf(t, l)); masksIn(bestOf(t, other)) != masks || masksIn(bestOf(t, moved)) != masks {
			t.Fatalf("%v: not %d false records in another order", l, masks)
		}
	})
	if open < 30 {
		t.Errorf("only %d records that are open", open)
	}
}

// P6.15
func TestParts(t *testing.T) {
	parts := 0
	eachLog(300, func(r *rand.Rand, l mask.Log) {
		hour := r.Intn(api.MaxMaskHour + 1)
		list := heardOf(t, l, hour)
		for _, text := range list {
			for from := range text {
				for end := from + 1; end <= len(text); end++ {
					if !hasText(list, text[from:end]) {
						t.Fatalf("%v: Heard at %d: %v, without %v", l, hour, list, text[from:end])
					}
					parts++
				}
			}
			if !slices.ContainsFunc(l.Journal, func(s mask.Sent) bool { return s.Hour < hour && isPart(text, s.Text) }) {
				t.Fatalf("%v: Heard at %d: %v, but nobody sent %v before", l, hour, list, text)
			}
		}
	})
	if parts < 3000 {
		t.Errorf("only %d parts", parts)
	}
}
