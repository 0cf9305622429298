package cipher_test

import (
	"math/rand"
	"slices"
	"testing"

	"glister/api"
	"glister/cipher"
)

// P4.6
func TestAndBack(t *testing.T) {
	eachBook(2000, func(r *rand.Rand, b cipher.Book) {
		day, text := r.Intn(len(b.Days)), randomNumbers(r, b.Size, r.Intn(11))
		dispatch, e := cipher.Code(b, day, text)
		plain, _, f := cipher.Decode(b, day, dispatch)
		if e != api.OK || f != api.OK || !slices.Equal(plain, text) {
			t.Fatalf("%v: Code of %v on day %d: %v, %v, Decode: %v, %v", b, text, day, dispatch, e, plain, f)
		}
	})
}

// P4.6: from a dispatch that Code has not made.
func TestAndForth(t *testing.T) {
	eachBook(2000, func(r *rand.Rand, b cipher.Book) {
		day := r.Intn(len(b.Days))
		dispatch := slices.Concat([]int{(b.Days[day] + day) % len(b.Keys)}, randomNumbers(r, b.Size, r.Intn(11)))
		dispatch = append(dispatch, checkOf(b.Size, dispatch))
		plain, _, e := cipher.Decode(b, day, dispatch)
		again, f := cipher.Code(b, day, plain)
		if e != api.OK || f != api.OK || !slices.Equal(again, dispatch) {
			t.Fatalf("%v: Decode of %v on day %d: %v, %v, Code: %v, %v", b, dispatch, day, plain, e, again, f)
		}
	})
}

// P4.7: each number is replaced by each other one, and each two are exchanged.
func TestReadWrong(t *testing.T) {
	exchanged := 0
	eachBook(300, func(r *rand.Rand, b cipher.Book) {
		day := r.Intn(len(b.Days))
		dispatch, _ := cipher.Code(b, day, randomNumbers(r, b.Size, r.Intn(11)))
		if len(dispatch) < 2 {
			t.Fatalf("%v: no dispatch", b)
		}
		notRead := func(read []int) {
			if plain, words, e := cipher.Decode(b, day, read); e == api.OK || plain != nil || words != nil {
				t.Fatalf("%v: Decode on day %d of %v, which is %v read wrong: %v, %v, %v", b, day, read, dispatch, plain, words, e)
			}
		}
		for i, n := range dispatch {
			for other := -1; other <= b.Size; other++ {
				if other != n {
					read := slices.Clone(dispatch)
					read[i] = other
					notRead(read)
				}
			}
			for j := range i {
				if dispatch[j] != n {
					read := slices.Clone(dispatch)
					read[i], read[j] = read[j], n
					notRead(read)
					exchanged++
				}
			}
		}
	})
	if exchanged < 5000 {
		t.Errorf("only %d exchanged", exchanged)
	}
}

// P4.8
func TestNulls(t *testing.T) {
	added := 0
	eachBook(1000, func(r *rand.Rand, b cipher.Book) {
		if b.Words == b.Size {
			return
		}
		day := r.Intn(len(b.Days))
		words := randomNumbers(r, b.Words, r.Intn(11))
		text := slices.Clone(words)
		for len(text) < api.MaxCipherPlain && r.Intn(4) > 0 {
			text = slices.Insert(text, r.Intn(len(text)+1), b.Words+r.Intn(b.Size-b.Words))
			added++
		}
		dispatch, e := cipher.Code(b, day, text)
		plain, list, f := cipher.Decode(b, day, dispatch)
		if e != api.OK || f != api.OK || !slices.Equal(plain, text) || !slices.Equal(list, words) {
			t.Fatalf("%v: the words of %v on day %d: %v, %v, %v, not %v", b, text, day, list, e, f, words)
		}
	})
	if added < 1000 {
		t.Errorf("only %d nulls", added)
	}
}

// P4.9
func TestWhatOthersKnow(t *testing.T) {
	guessed := 0
	eachRiddle(100, false, func(r *rand.Rand, x riddle) {
		x.book.Keys[0] = x.key
		dispatch, _ := cipher.Code(x.book, 0, x.plain)
		if len(dispatch) != len(x.plain)+2 {
			t.Fatalf("%v: Code of %v: %v", x.book, x.plain, dispatch)
		}
		codes := dispatch[1 : len(dispatch)-1]
		if fits, e := cipher.Fits(x.book, codes, x.guesses); fits < 1 || e != api.OK {
			t.Fatalf("%v: Fits of %v with %v: %d, %v", x.book, codes, x.guesses, fits, e)
		}
		for at, n := range x.plain {
			list, e := cipher.Possible(x.book, codes, x.guesses, at)
			if !slices.Contains(list, n) || e != api.OK {
				t.Fatalf("%v: Possible of %v with %v at %d: %v, %v, without %d", x.book, codes, x.guesses, at, list, e, n)
			}
			if len(list) < x.book.Size {
				guessed++
			}
		}
	})
	if guessed < 200 {
		t.Errorf("only %d numbers of which something is known", guessed)
	}
}

// P4.10
func TestMoreGuesses(t *testing.T) {
	fewer, none := 0, 0
	eachRiddle(100, false, func(r *rand.Rand, x riddle) {
		if len(x.codes) == 0 || len(x.guesses) == api.MaxCipherGuesses {
			return
		}
		more := append(slices.Clone(x.guesses), cipher.Guess{At: r.Intn(len(x.codes)), Plain: r.Intn(x.book.Size)})
		before, e := cipher.Fits(x.book, x.codes, x.guesses)
		after, f := cipher.Fits(x.book, x.codes, more)
		if e != api.OK || f != api.OK && f != api.ErrFalse || after > before || (f == api.OK) != (after > 0) {
			t.Fatalf("%v: Fits of %v with %v: %d, %v, with %v: %d, %v", x.book, x.codes, x.guesses, before, e, more, after, f)
		}
		for at := range x.codes {
			wide, _ := cipher.Possible(x.book, x.codes, x.guesses, at)
			narrow, g := cipher.Possible(x.book, x.codes, more, at)
			if g != f || slices.ContainsFunc(narrow, func(n int) bool { return !slices.Contains(wide, n) }) {
				t.Fatalf("%v: Possible of %v with %v at %d: %v, with %v: %v, %v", x.book, x.codes, x.guesses, at, wide, more, narrow, g)
			}
		}
		switch {
		case after == 0:
			none++
		case after < before:
			fewer++
		}
	})
	if fewer < 20 || none < 10 {
		t.Errorf("only %d with fewer keys, %d without any", fewer, none)
	}
}

// P4.11
func TestWithoutGuesses(t *testing.T) {
	r := rand.New(rand.NewSource(9))
	for _, size := range sizes() {
		b := cipher.Book{Size: size, Words: 1, Keys: []cipher.Key{{Mul: 1}}, Days: []int{0}}
		codes := randomNumbers(r, size, 10)
		if fits, e := cipher.Fits(b, codes, nil); fits != size*size*(size-1) || e != api.OK {
			t.Errorf("Fits with Size %d: %d, %v", size, fits, e)
		}
		for at := range codes {
			if list, e := cipher.Possible(b, codes, nil, at); !slices.Equal(list, upTo(size)) || e != api.OK {
				t.Errorf("Possible at %d of %v with Size %d: %v, %v", at, codes, size, list, e)
			}
		}
	}
}

// P4.12
func TestCertain(t *testing.T) {
	guessed, alone := 0, 0
	eachRiddle(150, true, func(r *rand.Rand, x riddle) {
		fits, e := cipher.Fits(x.book, x.codes, x.guesses)
		if e != api.OK {
			return
		}
		for _, g := range x.guesses {
			guessed++
			if list, e := cipher.Possible(x.book, x.codes, x.guesses, g.At); !slices.Equal(list, []int{g.Plain}) || e != api.OK {
				t.Fatalf("%v: Possible of %v with %v at %d: %v, %v", x.book, x.codes, x.guesses, g.At, list, e)
			}
		}
		if fits > 1 {
			return
		}
		for at := range x.codes {
			alone++
			if list, e := cipher.Possible(x.book, x.codes, x.guesses, at); len(list) != 1 || e != api.OK {
				t.Fatalf("%v: one key agrees, Possible of %v with %v at %d: %v, %v", x.book, x.codes, x.guesses, at, list, e)
			}
		}
	})
	if guessed < 100 || alone < 50 {
		t.Errorf("only %d guesses, %d numbers by one key alone", guessed, alone)
	}
}

// P4.4, P4.13: any plan.
func TestFewestChanges(t *testing.T) {
	right, wrong := 0, 0
	eachSmall(150, func(r *rand.Rand, b cipher.Book, lost []cipher.Loss, most int) {
		best, fewest, e := cipher.Plan(b, lost, most)
		eachPlan(b, func(days []int) {
			changes := changesOf(days)
			ok := cipher.ProvePlan(b, lost, most, days, changes)
			if ok != isRight(lost, most, days) || cipher.ProvePlan(b, lost, most, days, changes-1) {
				t.Fatalf("%v: ProvePlan after %v with %d of %v, %d: %v", b, lost, most, days, changes, ok)
			}
			if !ok {
				wrong++
				return
			}
			right++
			if e != api.OK || changes < fewest || changes == fewest && slices.Compare(days, best) < 0 {
				t.Fatalf("%v: Plan after %v with %d: %v, %d, %v, but %v has %d", b, lost, most, best, fewest, e, days, changes)
			}
		})
		if e == api.OK && !cipher.ProvePlan(b, lost, most, best, fewest) {
			t.Fatalf("%v: %v, %d after %v with %d is not proved", b, best, fewest, lost, most)
		}
	})
	if right < 1000 || wrong < 1000 {
		t.Errorf("only %d right plans, %d other ones", right, wrong)
	}
}

// P4.13: plans of books of any size.
func TestAnyPlan(t *testing.T) {
	right := 0
	eachBook(1000, func(r *rand.Rand, b cipher.Book) {
		lost, most := randomLosses(r, b), 2+r.Intn(7)
		best, fewest, e := cipher.Plan(b, lost, most)
		if e == api.OK && (!cipher.ProvePlan(b, lost, most, best, fewest) || changesOf(best) != fewest) {
			t.Fatalf("%v: %v, %d after %v with %d is not proved", b, best, fewest, lost, most)
		}
		for range 30 {
			days := randomNumbers(r, len(b.Keys), len(b.Days))
			if !cipher.ProvePlan(b, lost, most, days, api.MaxCipherDays) {
				continue
			}
			right++
			if changes := changesOf(days); e != api.OK || changes < fewest || changes == fewest && slices.Compare(days, best) < 0 {
				t.Fatalf("%v: Plan after %v with %d: %v, %d, %v, but %v has %d", b, lost, most, best, fewest, e, days, changes)
			}
		}
	})
	if right < 1000 {
		t.Errorf("only %d right plans", right)
	}
}

// noFewer checks that a plan with one more loss, or with a smaller number, has no fewer changes, or that there is none; it tells whether it has more, or there is none only then.
func noFewer(t *testing.T, b cipher.Book, lost, more []cipher.Loss, most, less int) bool {
	t.Helper()
	_, n, e := cipher.Plan(b, lost, most)
	_, m, f := cipher.Plan(b, more, less)
	if e == api.ErrStuck && f != api.ErrStuck || f == api.OK && m < n {
		t.Fatalf("%v: Plan after %v with %d: %d, %v, after %v with %d: %d, %v", b, lost, most, n, e, more, less, m, f)
	}
	return f != e || m > n
}

// P4.14
func TestMoreLosses(t *testing.T) {
	morePlan, lessPlan, earlier := 0, 0, 0 // after a loss no plan has more changes, but none may be left
	eachBook(2000, func(r *rand.Rand, b cipher.Book) {
		lost, most := randomLosses(r, b), 1+r.Intn(len(b.Days))
		if len(lost) == api.MaxCipherLost {
			lost = lost[1:]
		}
		more := slices.Insert(slices.Clone(lost), r.Intn(len(lost)+1), randomLoss(r, b))
		if noFewer(t, b, lost, more, most, most) {
			morePlan++
		}
		if noFewer(t, b, lost, lost, most, r.Intn(most)) {
			lessPlan++
		}
		before, e := cipher.Exposed(b, lost)
		after, f := cipher.Exposed(b, more)
		if e != api.OK || f != api.OK || len(before) != len(after) {
			t.Fatalf("%v: Exposed after %v, %v: %v, %v", b, lost, more, e, f)
		}
		for day := range before {
			if before[day] >= 0 && (after[day] < 0 || after[day] > before[day]) {
				t.Fatalf("%v: Exposed after %v: %v, after %v: %v", b, lost, before, more, after)
			}
			if before[day] > after[day] {
				earlier++
			}
		}
	})
	if morePlan < 50 || lessPlan < 50 || earlier < 50 {
		t.Errorf("only %d plans with more changes or stuck after a loss, %d with a smaller number; %d days that are earlier", morePlan, lessPlan, earlier)
	}
}

// P4.15
func TestARightPlan(t *testing.T) {
	later := 0
	eachBook(2000, func(r *rand.Rand, b cipher.Book) {
		lost, most := randomLosses(r, b), 1+r.Intn(8)
		days, _, e := cipher.Plan(b, lost, most)
		if e != api.OK {
			return
		}
		b.Days = days
		list, e := cipher.Exposed(b, lost)
		if e != api.OK || len(list) != len(days) {
			t.Fatalf("%v: Exposed after %v: %v, %v", b, lost, list, e)
		}
		for day, first := range list {
			if first == day {
				t.Fatalf("%v: Exposed after %v: %v", b, lost, list)
			}
			if first > day {
				later++
			}
		}
	})
	if later < 200 {
		t.Errorf("only %d days whose dispatches can be read later", later)
	}
}

// P7: the order of losses and guesses does not matter.
func TestAnyOrder(t *testing.T) {
	eachBook(300, func(r *rand.Rand, b cipher.Book) {
		lost := randomLosses(r, b)
		other := slices.Clone(lost)
		slices.Reverse(other)
		one, _ := cipher.Exposed(b, lost)
		two, _ := cipher.Exposed(b, other)
		best, n, e := cipher.Plan(b, lost, 3)
		same, m, f := cipher.Plan(b, other, 3)
		if !slices.Equal(one, two) || !slices.Equal(best, same) || n != m || e != f {
			t.Fatalf("%v: after %v: %v, %v, %d, %v, after %v: %v, %v, %d, %v", b, lost, one, best, n, e, other, two, same, m, f)
		}
	})
	eachRiddle(50, true, func(r *rand.Rand, x riddle) {
		other := slices.Clone(x.guesses)
		slices.Reverse(other)
		n, e := cipher.Fits(x.book, x.codes, x.guesses)
		m, f := cipher.Fits(x.book, x.codes, other)
		if n != m || e != f {
			t.Fatalf("%v: Fits of %v with %v: %d, %v, with %v: %d, %v", x.book, x.codes, x.guesses, n, e, other, m, f)
		}
		for at := range x.codes {
			one, _ := cipher.Possible(x.book, x.codes, x.guesses, at)
			two, _ := cipher.Possible(x.book, x.codes, other, at)
			if !slices.Equal(one, two) {
				t.Fatalf("%v: Possible of %v with %v at %d: %v, with %v: %v", x.book, x.codes, x.guesses, at, one, other, two)
			}
		}
	})
}
