package copies_test

import (
	"math/rand"
	"slices"
	"testing"

	"glister/api"
	"glister/copies"
)

// played returns the journal of a truth that is one of the post.
func played(t *testing.T, p copies.Post, truth copies.Truth) []copies.Entry {
	t.Helper()
	journal, e := copies.Play(p, truth)
	if e != api.OK || len(journal) != len(p.Sends) {
		t.Fatalf("%v: Play of %v: %v, %v", p, truth, journal, e)
	}
	return journal
}

// spansOf returns the spans of a valid post.
func spansOf(t *testing.T, p copies.Post) []copies.Range {
	t.Helper()
	list, e := copies.Spans(p)
	if e != api.OK || len(list) != len(p.Sends) {
		t.Fatalf("%v: Spans %v, %v", p, list, e)
	}
	return list
}

// surelyOf returns the dispatches of a valid post that are surely delivered.
func surelyOf(t *testing.T, p copies.Post) []int {
	t.Helper()
	list, e := copies.Surely(p)
	if e != api.OK {
		t.Fatalf("%v: Surely %v, %v", p, list, e)
	}
	return list
}

// hoursOf returns the hours of a copy of a valid post.
func hoursOf(t *testing.T, p copies.Post, number, route int) []int {
	t.Helper()
	list, e := copies.Hours(p, number, route)
	if e != api.OK || len(list) == 0 {
		t.Fatalf("%v: Hours of %d by %d: %v, %v", p, number, route, list, e)
	}
	return list
}

// oddOf returns the smallest set for a valid post and valid entries.
func oddOf(t *testing.T, p copies.Post, entries []copies.Entry) []int {
	t.Helper()
	list, e := copies.Odd(p, entries)
	if e != api.OK {
		t.Fatalf("%v: Odd of %v: %v, %v", p, entries, list, e)
	}
	return list
}

// isExplained tells whether Explain returns a truth, which must explain the entries.
func isExplained(t *testing.T, p copies.Post, entries []copies.Entry) bool {
	t.Helper()
	truth, e := copies.Explain(p, entries)
	switch {
	case e == api.ErrFail && truth == nil:
		return false
	case e != api.OK || !copies.ProveTruth(p, truth, entries):
		t.Fatalf("%v: Explain of %v: %v, %v", p, entries, truth, e)
	}
	return true
}

// P5.7
func TestOnceInOrder(t *testing.T) {
	skipped, waited := 0, 0
	eachPost(1000, func(r *rand.Rand, p copies.Post) {
		spans := spansOf(t, p)
		for range 5 {
			truth := randomTruth(r, p)
			before, deadline := 0, 0
			for number, e := range played(t, p, truth) {
				deadline = max(deadline, p.Sends[number]+p.Patience)
				if e.Number != number || e.At < before || e.At < spans[number].Lo || e.At > spans[number].Hi || e.At > deadline {
					t.Fatalf("%v: Play of %v: %v, after %d; Spans %v", p, truth, e, before, spans)
				}
				if e.Skipped {
					skipped++
				} else if number > 0 && e.At == before {
					waited++
				}
				before = e.At
			}
		}
	})
	if skipped < 1000 || waited < 500 {
		t.Errorf("only %d skipped, %d that waited for the one before", skipped, waited)
	}
}

// P5.8: in random truths; the model tries all of small posts.
func TestSurely(t *testing.T) {
	delivered := 0
	eachPost(1000, func(r *rand.Rand, p copies.Post) {
		surely := surelyOf(t, p)
		for range 5 {
			truth := randomTruth(r, p)
			journal := played(t, p, truth)
			for _, number := range surely {
				delivered++
				if journal[number].Skipped {
					t.Fatalf("%v: Surely %v, Play of %v: %v", p, surely, truth, journal)
				}
			}
		}
	})
	if delivered < 3000 {
		t.Errorf("only %d surely delivered", delivered)
	}
}

// P5.8: each patience is tried.
func TestTheSmallestPatience(t *testing.T) {
	found, none := 0, 0
	eachPost(500, func(r *rand.Rand, p copies.Post) {
		least, e := copies.Least(p)
		if e != api.OK && (e != api.ErrFail || least != 0) {
			t.Fatalf("%v: Least %d, %v", p, least, e)
		}
		for p.Patience = range api.MaxCopiesHour + 1 {
			all := len(surelyOf(t, p)) == len(p.Sends)
			if all != (e == api.OK && p.Patience >= least) {
				t.Fatalf("%v: all surely delivered %v, but Least %d, %v", p, all, least, e)
			}
			if again, f := copies.Least(p); again != least || f != e {
				t.Fatalf("%v: Least %d, %v, but %d, %v with another Patience", p, again, f, least, e)
			}
		}
		if e == api.OK {
			found++
		} else {
			none++
		}
	})
	if found < 200 || none < 50 {
		t.Errorf("only %d with a smallest patience, %d without", found, none)
	}
}

// P5.9: each end of a span is reached, and no hour outside.
func TestTheEnds(t *testing.T) {
	ends := map[bool]int{}
	eachPost(400, func(r *rand.Rand, p copies.Post) {
		for number, span := range spansOf(t, p) {
			at := func(hour int, skipped bool) bool {
				return hour >= 0 && isExplained(t, p, []copies.Entry{{Number: number, At: hour, Skipped: skipped}})
			}
			for _, hour := range []int{span.Lo, span.Hi} {
				if !at(hour, false) && !at(hour, true) {
					t.Fatalf("%v: the span of %d is %v, but no truth has %d", p, number, span, hour)
				}
				ends[at(hour, true)]++
			}
			for _, hour := range []int{0, span.Lo - 1, span.Hi + 1, api.MaxCopiesEnd} {
				if (hour < span.Lo || hour > span.Hi) && (at(hour, false) || at(hour, true)) {
					t.Fatalf("%v: the span of %d is %v, but some truth has %d", p, number, span, hour)
				}
			}
		}
	})
	if ends[true] < 200 || ends[false] < 200 {
		t.Errorf("only so many ends, skipped or not: %v", ends)
	}
}

// P5.10: wherever the route is added.
func TestOneMoreRoute(t *testing.T) {
	sooner, surer := 0, 0
	eachPost(1500, func(r *rand.Rand, p copies.Post) {
		if len(p.Routes) == api.MaxCopiesRoutes {
			return
		}
		more := p
		more.Routes = slices.Insert(slices.Clone(p.Routes), r.Intn(len(p.Routes)+1), randomRoute(r, scale{hour: 20, wide: 3}))
		before, after := spansOf(t, p), spansOf(t, more)
		for number := range before {
			if after[number].Lo > before[number].Lo || after[number].Hi > before[number].Hi {
				t.Fatalf("%v: Spans %v; %v: %v", p, before, more, after)
			}
			if after[number] != before[number] {
				sooner++
			}
		}
		few, many := surelyOf(t, p), surelyOf(t, more)
		if slices.ContainsFunc(few, func(number int) bool { return !slices.Contains(many, number) }) {
			t.Fatalf("%v: Surely %v; %v: %v", p, few, more, many)
		}
		if len(many) > len(few) {
			surer++
		}
	})
	if sooner < 300 || surer < 100 {
		t.Errorf("only %d spans that change, %d posts with more surely delivered", sooner, surer)
	}
}

// P5.11: a journal, and each part of it, in any order.
func TestJournals(t *testing.T) {
	eachPost(300, func(r *rand.Rand, p copies.Post) {
		truth := randomTruth(r, p)
		journal := played(t, p, truth)
		eachSet(len(journal), func(list []int) {
			part := leaveOut(journal, list)
			r.Shuffle(len(part), func(i, j int) { part[i], part[j] = part[j], part[i] })
			if !copies.ProveTruth(p, truth, part) || !isExplained(t, p, part) || len(oddOf(t, p, part)) > 0 {
				t.Fatalf("%v: %v of the journal %v of %v is not explained, or odd", p, part, journal, truth)
			}
		})
	})
}

// P5.12: any shorter list is tried, and any that is before the smallest set.
func TestOneEntryMore(t *testing.T) {
	odd, more := 0, 0
	eachPost(400, func(r *rand.Rand, p copies.Post) {
		entries := append(randomEntries(r, p, 6), copies.Entry{Number: r.Intn(len(p.Sends)), At: r.Intn(30), Skipped: r.Intn(2) == 0})
		few, many := oddOf(t, p, entries[:len(entries)-1]), oddOf(t, p, entries)
		if len(many) < len(few) {
			t.Fatalf("%v: Odd of %v: %v, of all but the last one: %v", p, entries, many, few)
		}
		eachSet(len(entries), func(list []int) {
			smaller := len(list) < len(many) || len(list) == len(many) && slices.Compare(list, many) < 0
			if smaller && isExplained(t, p, leaveOut(entries, list)) {
				t.Fatalf("%v: Odd of %v: %v, but without %v they are explained", p, entries, many, list)
			}
		})
		if !isExplained(t, p, leaveOut(entries, many)) {
			t.Fatalf("%v: Odd of %v: %v, but without it they are not explained", p, entries, many)
		}
		if len(many) > 1 {
			odd++
		}
		if len(many) > len(few) {
			more++
		}
	})
	if odd < 100 || more < 100 {
		t.Errorf("only %d with several odd entries, %d with more", odd, more)
	}
}

// P5.13
func TestMorePatience(t *testing.T) {
	came, later := 0, 0
	eachPost(1000, func(r *rand.Rand, p copies.Post) {
		more := p
		more.Patience += r.Intn(api.MaxCopiesHour - p.Patience + 1)
		before, after := spansOf(t, p), spansOf(t, more)
		for number := range before {
			if after[number].Lo < before[number].Lo || after[number].Hi < before[number].Hi {
				t.Fatalf("%v: Spans %v; with %d: %v", p, before, more.Patience, after)
			}
			if after[number] != before[number] {
				later++
			}
		}
		for range 5 {
			truth := randomTruth(r, p)
			few, many := played(t, p, truth), played(t, more, truth)
			for number := range few {
				if !few[number].Skipped && many[number].Skipped {
					t.Fatalf("%v: Play of %v: %v; with %d: %v", p, truth, few, more.Patience, many)
				}
				if few[number].Skipped && !many[number].Skipped {
					came++
				}
			}
		}
	})
	if came < 1000 || later < 500 {
		t.Errorf("only %d delivered with more patience, %d spans that change", came, later)
	}
}

// moved returns the post with all hours later by the number, and whether they are hours of a post.
func moved(p copies.Post, by int) (copies.Post, bool) {
	p = clonePost(p)
	last := 0
	for i := range p.Sends {
		p.Sends[i] += by
		last = max(last, p.Sends[i])
	}
	for _, route := range p.Routes {
		for _, l := range route.Legs {
			for i := range l.Asleep {
				l.Asleep[i].Lo += by
				l.Asleep[i].Hi += by
				last = max(last, l.Asleep[i].Hi)
			}
		}
	}
	return p, last <= api.MaxCopiesHour
}

// P5.14
func TestMoved(t *testing.T) {
	valid := 0
	eachPost(1000, func(r *rand.Rand, p copies.Post) {
		by := r.Intn(12)
		later, ok := moved(p, by)
		if !ok {
			return
		}
		valid++
		spans := spansOf(t, p)
		for i := range spans {
			spans[i].Lo += by
			spans[i].Hi += by
		}
		if list := spansOf(t, later); !slices.Equal(list, spans) {
			t.Fatalf("%v: Spans %v, not %v", later, list, spans)
		}
		for number := range p.Sends {
			for route := range p.Routes {
				hours := hoursOf(t, p, number, route)
				for i := range hours {
					hours[i] += by
				}
				if list := hoursOf(t, later, number, route); !slices.Equal(list, hours) {
					t.Fatalf("%v: Hours of %d by %d: %v, not %v", later, number, route, list, hours)
				}
			}
		}
	})
	if valid < 400 {
		t.Errorf("only %d posts that can be moved", valid)
	}
}

// P5.15
func TestAwake(t *testing.T) {
	eachPost(500, func(r *rand.Rand, p copies.Post) {
		p = clonePost(p)
		for i, route := range p.Routes {
			lo, hi := 0, 0
			for j := range route.Legs {
				route.Legs[j].Asleep = nil
				lo += route.Legs[j].Takes.Lo
				hi += route.Legs[j].Takes.Hi
			}
			for number, send := range p.Sends {
				var want []int
				for n := lo; n <= hi; n++ {
					want = append(want, send+n)
				}
				if list := hoursOf(t, p, number, i); !slices.Equal(list, want) {
					t.Fatalf("%v: Hours of %d by %d: %v, not %v", p, number, i, list, want)
				}
			}
		}
	})
}

// P7: the order of routes and of entries does not matter, except for indexes.
func TestAnyOrder(t *testing.T) {
	eachPost(300, func(r *rand.Rand, p copies.Post) {
		entries := randomEntries(r, p, api.MaxCopiesEntries)
		other, reversed := clonePost(p), slices.Clone(entries)
		slices.Reverse(other.Routes)
		slices.Reverse(reversed)
		for _, route := range other.Routes {
			for _, l := range route.Legs {
				slices.Reverse(l.Asleep)
			}
		}
		n, e := copies.Least(p)
		m, f := copies.Least(other)
		if !slices.Equal(spansOf(t, p), spansOf(t, other)) || !slices.Equal(surelyOf(t, p), surelyOf(t, other)) || n != m || e != f {
			t.Fatalf("%v and %v: Least %d, %v and %d, %v, or other differences", p, other, n, e, m, f)
		}
		if !slices.Equal(oddOf(t, p, entries), oddOf(t, other, entries)) || len(oddOf(t, p, entries)) != len(oddOf(t, p, reversed)) {
			t.Fatalf("%v: Odd of %v depends on the order", p, entries)
		}
	})
}
