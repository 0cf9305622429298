package cipher_test

import (
	"math"
	"math/rand"
	"reflect"
	"slices"
	"testing"

	"glister/api"
	"glister/cipher"
)

// example is the book of the chapter.
func example() cipher.Book {
	return cipher.Book{Size: 13, Words: 10, Keys: []cipher.Key{{Mul: 2, Add: 3, Step: 1}, {Mul: 5, Add: 0, Step: 0}}, Days: []int{0, 0, 1}}
}

// full has as many keys and days as a book can have.
func full() cipher.Book {
	return cipher.Book{
		Size: 41, Words: 41,
		Keys: []cipher.Key{{Mul: 1}, {Mul: 40, Add: 40, Step: 40}, {Mul: 7, Add: 1, Step: 2}, {Mul: 20, Add: 5}, {Mul: 7, Add: 1, Step: 2}},
		Days: []int{4, 3, 2, 1, 0, 0, 1, 4},
	}
}

// changed is the example after a change.
func changed(change func(b *cipher.Book)) cipher.Book {
	b := example()
	change(&b)
	return b
}

func numbers(list ...int) []int { return list }

func losses(list ...cipher.Loss) []cipher.Loss { return list }

func guesses(list ...cipher.Guess) []cipher.Guess { return list }

func loss(key, day int) cipher.Loss { return cipher.Loss{Key: key, Day: day} }

func guess(plain, at int) cipher.Guess { return cipher.Guess{At: at, Plain: plain} }

// input has the arguments of all calls; numbers are a plain text, a dispatch, or codes.
type input struct {
	book    cipher.Book
	day     int
	numbers []int
	lost    []cipher.Loss
	most    int
	guesses []cipher.Guess
	at      int
}

// all has the results of each call that has an error.
func (in input) all() []any {
	e0 := cipher.CheckBook(in.book)
	dispatch, e1 := cipher.Code(in.book, in.day, in.numbers)
	plain, words, e2 := cipher.Decode(in.book, in.day, in.numbers)
	exposed, e3 := cipher.Exposed(in.book, in.lost)
	days, changes, e4 := cipher.Plan(in.book, in.lost, in.most)
	fits, e5 := cipher.Fits(in.book, in.numbers, in.guesses)
	possible, e6 := cipher.Possible(in.book, in.numbers, in.guesses, in.at)
	return []any{e0, dispatch, e1, plain, words, e2, exposed, e3, days, changes, e4, fits, e5, possible, e6}
}

// errorsOf picks the errors from the results of all: CheckBook, Code, Decode, Exposed, Plan, Fits, Possible.
func errorsOf(results []any) []api.Errno {
	var list []api.Errno
	for _, x := range results {
		if e, ok := x.(api.Errno); ok {
			list = append(list, e)
		}
	}
	return list
}

// failed checks that a call with an error has no other results.
func failed(t *testing.T, results []any) {
	t.Helper()
	var others []any
	for _, x := range results {
		e, ok := x.(api.Errno)
		if !ok {
			others = append(others, x)
			continue
		}
		for _, y := range others {
			if v := reflect.ValueOf(y); e != api.OK && (v.Kind() == reflect.Slice && v.Len() > 0 || v.Kind() == reflect.Int && v.Int() != 0) {
				t.Errorf("%v with %v in %v", y, e, results)
			}
		}
		others = nil
	}
}

// P4.1: which numbers a book can have.
func TestCheckBook(t *testing.T) {
	for size := -1; size <= 60; size++ {
		b := changed(func(b *cipher.Book) { b.Size, b.Words = size, 1 })
		want := api.ErrArg
		if slices.Contains(sizes(), size) {
			want = api.OK
		}
		if e := cipher.CheckBook(b); e != want {
			t.Errorf("CheckBook with Size %d: %v", size, e)
		}
	}
	keys := func(list ...cipher.Key) cipher.Book {
		return changed(func(b *cipher.Book) { b.Keys, b.Days = list, []int{0} })
	}
	days := func(list ...int) cipher.Book { return changed(func(b *cipher.Book) { b.Days = list }) }
	size := func(size, words int) cipher.Book {
		return changed(func(b *cipher.Book) { b.Size, b.Words = size, words })
	}
	six, nine := make([]cipher.Key, 6), make([]int, 9)
	for _, x := range []struct {
		what string
		b    cipher.Book
		want api.Errno
	}{
		{"the example", example(), api.OK}, {"a full book", full(), api.OK}, {"nothing", cipher.Book{}, api.ErrArg},
		{"the greatest Size", size(math.MaxInt, 1), api.ErrArg}, {"the smallest Size", size(math.MinInt, 1), api.ErrArg}, {"a greater prime number", size(43, 1), api.ErrArg}, {"a smaller prime number", size(11, 1), api.ErrArg},
		{"no word", size(13, 0), api.ErrArg}, {"one word", size(13, 1), api.OK}, {"words alone", size(13, 13), api.OK}, {"too many words", size(13, 14), api.ErrArg}, {"Words below 0", size(13, -1), api.ErrArg},
		{"no keys", keys(), api.ErrArg}, {"Mul 0", keys(cipher.Key{}), api.ErrArg}, {"Mul 1", keys(cipher.Key{Mul: 1}), api.OK}, {"the greatest numbers", keys(cipher.Key{Mul: 12, Add: 12, Step: 12}), api.OK},
		{"Mul 13", keys(cipher.Key{Mul: 13}), api.ErrArg}, {"Add 13", keys(cipher.Key{Mul: 1, Add: 13}), api.ErrArg}, {"Step 13", keys(cipher.Key{Mul: 1, Step: 13}), api.ErrArg}, {"Mul below 0", keys(cipher.Key{Mul: -1}), api.ErrArg}, {"Add below 0", keys(cipher.Key{Mul: 1, Add: -1}), api.ErrArg}, {"Step below 0", keys(cipher.Key{Mul: 1, Step: -1}), api.ErrArg},
		{"a second key that is none", keys(cipher.Key{Mul: 1}, cipher.Key{Mul: 14}), api.ErrArg}, {"two equal keys", keys(cipher.Key{Mul: 1}, cipher.Key{Mul: 1}), api.OK},
		{"no days", days(), api.ErrArg}, {"a key that is not there", days(2), api.ErrArg}, {"a key below 0", days(0, -1), api.ErrArg}, {"eight days", days(1, 1, 1, 1, 1, 1, 1, 1), api.OK},
		{"six keys", keys(six...), api.ErrLimit}, {"nine days", days(nine...), api.ErrLimit}, {"nine days without keys", cipher.Book{Days: nine}, api.ErrLimit}, {"six keys alone", cipher.Book{Keys: six}, api.ErrLimit},
	} {
		if e := cipher.CheckBook(x.b); e != x.want {
			t.Errorf("CheckBook of %s: %v, not %v", x.what, e, x.want)
		}
	}
}

// P4.1, P4.2
func TestCodeAndDecode(t *testing.T) {
	for _, x := range []struct {
		b                      cipher.Book
		day                    int
		plain, dispatch, words []int
	}{
		{example(), 0, numbers(4, 11, 4), numbers(0, 11, 0, 0, 9), numbers(4, 4)},
		{example(), 2, numbers(4), numbers(1, 7, 2), numbers(4)},
		{example(), 0, nil, numbers(0, 0), nil}, {example(), 1, nil, numbers(1, 1), nil}, {example(), 2, nil, numbers(1, 1), nil},
		// 9 is the last word, 10 the first null.
		{example(), 2, numbers(9, 10, 12, 0), numbers(1, 6, 11, 8, 0, 0), numbers(9, 0)},
		{example(), 2, numbers(10, 11, 12), numbers(1, 11, 3, 8, 12), nil},
		// Codes are the plain numbers, and 4 has the indicators from 4 on.
		{full(), 4, numbers(0, 1, 2, 3, 4, 5, 6, 7, 8, 40), numbers(4, 0, 1, 2, 3, 4, 5, 6, 7, 8, 40, 23), numbers(0, 1, 2, 3, 4, 5, 6, 7, 8, 40)},
		{full(), 3, numbers(0, 0, 40), numbers(4, 40, 39, 39, 29), numbers(0, 0, 40)},
		{full(), 7, numbers(40), numbers(1, 35, 30), numbers(40)},
	} {
		dispatch, e := cipher.Code(x.b, x.day, x.plain)
		if !slices.Equal(dispatch, x.dispatch) || e != api.OK {
			t.Errorf("Code of %v on day %d: %v, %v, not %v", x.plain, x.day, dispatch, e, x.dispatch)
		}
		plain, words, e := cipher.Decode(x.b, x.day, x.dispatch)
		if !slices.Equal(plain, x.plain) || !slices.Equal(words, x.words) || e != api.OK {
			t.Errorf("Decode of %v on day %d: %v, %v, %v, not %v, %v", x.dispatch, x.day, plain, words, e, x.plain, x.words)
		}
	}
}

// P4.1: the errors of Code in their order, after those of the book.
func TestCodeErrors(t *testing.T) {
	for _, x := range []struct {
		day   int
		plain []int
		want  api.Errno
	}{
		{0, make([]int, 10), api.OK}, {0, make([]int, 11), api.ErrLimit}, {0, slices.Repeat(numbers(13), 11), api.ErrLimit}, {2, numbers(12, 13), api.ErrRange}, {2, numbers(-1, 0), api.ErrRange}, {0, numbers(math.MaxInt), api.ErrRange}, {0, numbers(math.MinInt), api.ErrRange},
		{3, nil, api.ErrRange}, {-1, nil, api.ErrRange}, {3, make([]int, 11), api.ErrRange}, {math.MaxInt, nil, api.ErrRange}, {math.MinInt, nil, api.ErrRange},
	} {
		list, e := cipher.Code(example(), x.day, x.plain)
		if e != x.want || e != api.OK && list != nil {
			t.Errorf("Code of %v on day %d: %v, %v, not %v", x.plain, x.day, list, e, x.want)
		}
	}
}

// P4.2: the errors of Decode in their order, after those of the book.
func TestDecodeErrors(t *testing.T) {
	longest := modelDispatch(example(), 0, make([]int, 10))
	longer := modelDispatch(example(), 0, make([]int, 11))
	for _, x := range []struct {
		day      int
		dispatch []int
		want     api.Errno
	}{
		{1, numbers(0, 11, 0, 0, 9), api.ErrState}, {0, numbers(0, 11, 0, 1, 9), api.ErrFalse}, {0, numbers(0, 11, 0, 0, 8), api.ErrFalse}, {0, numbers(0, 11, 0, 0), api.ErrFalse},
		{0, nil, api.ErrForm}, {0, numbers(0), api.ErrForm}, {0, numbers(0, 0), api.OK}, {0, numbers(0, 1), api.ErrFalse}, {0, longest, api.OK}, {0, longer, api.ErrForm}, {0, make([]int, 13), api.ErrForm}, {1, numbers(0), api.ErrForm},
		{0, numbers(0, 13, 0), api.ErrForm}, {0, numbers(0, -1, 0), api.ErrForm}, {1, numbers(0, 0, 13), api.ErrForm}, {0, numbers(1, 0, -1), api.ErrForm}, {0, numbers(13, 0), api.ErrForm}, {0, numbers(math.MinInt, math.MaxInt), api.ErrForm},
		// The codes and the check as they are, plus the size.
		{0, numbers(0, 24, 0, 0, 9), api.ErrForm}, {0, numbers(0, 11, 0, 0, 22), api.ErrForm}, {0, numbers(2, 0, 2), api.ErrState}, {1, numbers(0, 1), api.ErrState}, {2, numbers(0, 0), api.ErrState},
		{3, numbers(0, 0), api.ErrRange}, {-1, nil, api.ErrRange}, {3, make([]int, 13), api.ErrRange}, {math.MaxInt, numbers(0, 0), api.ErrRange},
	} {
		plain, words, e := cipher.Decode(example(), x.day, x.dispatch)
		if e != x.want || e != api.OK && (plain != nil || words != nil) {
			t.Errorf("Decode of %v on day %d: %v, %v, %v, not %v", x.dispatch, x.day, plain, words, e, x.want)
		}
	}
}

// P4.3
func TestExposed(t *testing.T) {
	for _, x := range []struct {
		b    cipher.Book
		lost []cipher.Loss
		want []int
	}{
		{example(), nil, numbers(-1, -1, -1)}, {example(), losses(loss(0, 1)), numbers(1, 1, -1)}, {example(), losses(loss(0, 0)), numbers(0, 1, -1)}, {example(), losses(loss(0, 2)), numbers(2, 2, -1)},
		{example(), losses(loss(1, 0)), numbers(-1, -1, 2)}, {example(), losses(loss(1, 2), loss(0, 2), loss(0, 1)), numbers(1, 1, 2)}, {example(), losses(loss(0, 1), loss(0, 2)), numbers(1, 1, -1)},
		{full(), losses(loss(4, 7), loss(3, 0), loss(2, 1), loss(1, 4), loss(0, 5), loss(4, 7)), numbers(7, 1, 2, 4, 5, 5, 6, 7)},
		// The key 2 has the numbers of the key 4, but is another one.
		{full(), losses(loss(4, 0)), numbers(0, -1, -1, -1, -1, -1, -1, 7)},
	} {
		if list, e := cipher.Exposed(x.b, x.lost); !slices.Equal(list, x.want) || e != api.OK {
			t.Errorf("Exposed after %v: %v, %v, not %v", x.lost, list, e, x.want)
		}
	}
}

// P4.4
func TestPlan(t *testing.T) {
	only := changed(func(b *cipher.Book) { b.Keys, b.Days = b.Keys[:1], []int{0, 0} })
	for _, x := range []struct {
		b       cipher.Book
		lost    []cipher.Loss
		most    int
		want    []int
		changes int
		e       api.Errno
	}{
		{example(), losses(loss(0, 1)), 2, numbers(0, 1, 1), 1, api.OK}, {example(), losses(loss(0, 1)), 3, numbers(1, 1, 1), 0, api.OK}, {example(), losses(loss(0, 1)), 8, numbers(1, 1, 1), 0, api.OK}, {example(), losses(loss(0, 1)), 1, nil, 0, api.ErrStuck},
		{example(), nil, 3, numbers(0, 0, 0), 0, api.OK}, {example(), nil, 2, numbers(0, 0, 1), 1, api.OK}, {example(), losses(loss(0, 0)), 2, nil, 0, api.ErrStuck}, {example(), losses(loss(0, 0)), 3, numbers(1, 1, 1), 0, api.OK}, {example(), losses(loss(0, 2), loss(1, 1)), 3, nil, 0, api.ErrStuck},
		{example(), losses(loss(1, 1)), 2, numbers(1, 0, 0), 1, api.OK}, {example(), losses(loss(1, 1)), 1, nil, 0, api.ErrStuck}, {example(), losses(loss(1, 1)), 3, numbers(0, 0, 0), 0, api.OK}, {example(), losses(loss(1, 2)), 2, numbers(1, 0, 0), 1, api.OK}, {example(), nil, 0, nil, 0, api.ErrStuck},
		{only, nil, 2, numbers(0, 0), 0, api.OK}, {only, nil, 1, nil, 0, api.ErrStuck}, {only, losses(loss(0, 1)), 2, nil, 0, api.ErrStuck},
		{full(), nil, 8, make([]int, 8), 0, api.OK}, {full(), nil, 7, numbers(0, 0, 0, 0, 0, 0, 0, 1), 1, api.OK}, {full(), nil, 4, numbers(0, 0, 0, 0, 1, 1, 1, 1), 1, api.OK}, {full(), nil, 3, numbers(0, 0, 0, 1, 1, 1, 2, 2), 2, api.OK}, {full(), nil, 2, numbers(0, 0, 1, 1, 2, 2, 3, 3), 3, api.OK}, {full(), nil, 1, nil, 0, api.ErrStuck},
		// Fewer changes are better than a smaller key on day 0.
		{full(), losses(loss(0, 1), loss(1, 2), loss(2, 4), loss(3, 7)), 8, slices.Repeat(numbers(4), 8), 0, api.OK},
		{full(), losses(loss(0, 1), loss(1, 2), loss(2, 4), loss(3, 7)), 7, numbers(0, 4, 4, 4, 4, 4, 4, 4), 1, api.OK},
		{full(), losses(loss(0, 1), loss(1, 2), loss(2, 4), loss(3, 7)), 6, numbers(1, 1, 4, 4, 4, 4, 4, 4), 1, api.OK},
		{full(), losses(loss(0, 0), loss(1, 0), loss(2, 0), loss(3, 0), loss(4, 0)), 8, nil, 0, api.ErrStuck},
	} {
		days, changes, e := cipher.Plan(x.b, x.lost, x.most)
		if !slices.Equal(days, x.want) || changes != x.changes || e != x.e {
			t.Errorf("Plan after %v with %d: %v, %d, %v, not %v, %d, %v", x.lost, x.most, days, changes, e, x.want, x.changes, x.e)
		}
		if cipher.ProvePlan(x.b, x.lost, x.most, days, changes) != (e == api.OK) || cipher.ProvePlan(x.b, x.lost, x.most, days, changes-1) {
			t.Errorf("ProvePlan after %v with %d of %v", x.lost, x.most, days)
		}
	}
}

// P4.4
func TestProvePlan(t *testing.T) {
	lost := losses(loss(0, 1))
	bad := changed(func(b *cipher.Book) { b.Words = 0 })
	long := changed(func(b *cipher.Book) { b.Keys = make([]cipher.Key, 6) })
	for _, x := range []struct {
		b       cipher.Book
		lost    []cipher.Loss
		most    int
		days    []int
		changes int
		want    bool
	}{
		{example(), lost, 2, numbers(0, 1, 1), 1, true}, {example(), lost, 2, numbers(0, 1, 1), 0, false}, {example(), lost, 2, numbers(0, 1, 1), 2, true}, {example(), lost, 2, numbers(0, 1, 1), math.MaxInt, true}, {example(), lost, 2, numbers(0, 1, 1), -1, false}, {example(), lost, 2, numbers(0, 1, 1), math.MinInt, false},
		{example(), lost, 3, numbers(1, 1, 1), 0, true}, {example(), lost, 2, numbers(1, 1, 1), 0, false}, {example(), lost, 3, numbers(0, 0, 1), 9, false}, {example(), lost, 3, numbers(1, 1, 0), 9, false}, {example(), nil, 2, numbers(0, 1, 0), 2, true}, {example(), nil, 2, numbers(0, 1, 0), 1, false}, {example(), nil, 2, numbers(1, 0, 1), 2, true}, {example(), nil, 1, numbers(1, 0, 1), 2, false},
		{example(), nil, 3, numbers(0, 0, 0), 0, true}, {example(), nil, 3, numbers(0, 0), 0, false}, {example(), nil, 3, numbers(0, 0, 0, 0), 0, false}, {example(), nil, 8, numbers(0, 0, 0, 0), 0, false}, {example(), nil, 3, nil, 0, false},
		{example(), nil, 3, numbers(0, 0, 2), 9, false}, {example(), nil, 3, numbers(-1, 0, 0), 9, false}, {example(), nil, 3, numbers(0, 0, math.MaxInt), 9, false}, {example(), nil, 3, numbers(0, math.MinInt, 0), 9, false},
		// What is not valid.
		{example(), nil, 8, numbers(0, 0, 0), 0, true}, {example(), nil, 9, numbers(0, 0, 0), 0, false}, {example(), nil, -1, numbers(0, 0, 0), 0, false}, {example(), nil, 0, numbers(0, 0, 0), 0, false}, {example(), nil, math.MaxInt, numbers(0, 0, 0), 0, false},
		{bad, nil, 3, numbers(0, 0, 0), 0, false}, {long, nil, 3, numbers(0, 0, 0), 0, false}, {cipher.Book{}, nil, 3, nil, 0, false},
		{example(), losses(loss(2, 2)), 3, numbers(0, 0, 0), 0, false}, {example(), losses(loss(1, 3)), 3, numbers(0, 0, 0), 0, false}, {example(), losses(loss(-1, 0)), 3, numbers(0, 0, 0), 0, false}, {example(), losses(loss(1, -1)), 3, numbers(0, 0, 0), 0, false},
		{example(), slices.Repeat(losses(loss(1, 0)), 6), 3, numbers(0, 0, 0), 0, true}, {example(), slices.Repeat(losses(loss(1, 0)), 7), 3, numbers(0, 0, 0), 0, false},
	} {
		if ok := cipher.ProvePlan(x.b, x.lost, x.most, x.days, x.changes); ok != x.want {
			t.Errorf("ProvePlan after %v with %d of %v, %d: %v", x.lost, x.most, x.days, x.changes, ok)
		}
	}
}

// P4.5
func TestFitsAndPossible(t *testing.T) {
	codes := numbers(11, 0, 0)
	but4 := numbers(0, 1, 2, 3, 5, 6, 7, 8, 9, 10, 11, 12)
	for _, x := range []struct {
		codes   []int
		guesses []cipher.Guess
		at      int
		fits    int
		want    []int
		e       api.Errno
	}{
		{codes, guesses(guess(4, 0), guess(4, 2)), 1, 12, but4, api.OK}, {codes, guesses(guess(4, 0), guess(4, 2)), 0, 12, numbers(4), api.OK},
		{codes, guesses(guess(4, 0), guess(4, 2), guess(11, 1)), 2, 1, numbers(4), api.OK}, {codes, guesses(guess(4, 0), guess(4, 2), guess(4, 1)), 0, 0, nil, api.ErrFalse},
		{codes, guesses(guess(4, 0)), 2, 156, upTo(13), api.OK}, {codes, guesses(guess(4, 0), guess(4, 0)), 0, 156, numbers(4), api.OK}, {codes, guesses(guess(4, 0), guess(5, 0)), 0, 0, nil, api.ErrFalse},
		{codes, nil, 2, 13 * 13 * 12, upTo(13), api.OK}, {numbers(5), guesses(guess(5, 0)), 0, 156, numbers(5), api.OK},
		// Equal plain numbers: the Step is 0, and a Mul that is 0 is none.
		{numbers(3, 3, 3), guesses(guess(7, 0), guess(7, 2)), 1, 12, numbers(7), api.OK}, {numbers(3, 3, 3), guesses(guess(7, 0), guess(7, 2), guess(8, 1)), 1, 0, nil, api.ErrFalse},
		// A key that is not one of the book.
		{numbers(1, 1), guesses(guess(12, 0), guess(11, 1)), 0, 12, numbers(12), api.OK},
	} {
		fits, e := cipher.Fits(example(), x.codes, x.guesses)
		list, f := cipher.Possible(example(), x.codes, x.guesses, x.at)
		if fits != x.fits || e != x.e || !slices.Equal(list, x.want) || f != x.e {
			t.Errorf("Fits, Possible of %v with %v at %d: %d, %v; %v, %v", x.codes, x.guesses, x.at, fits, e, list, f)
		}
	}
	if fits, e := cipher.Fits(example(), nil, nil); fits != 13*13*12 || e != api.OK {
		t.Errorf("Fits of no codes: %d, %v", fits, e)
	}
	ten := upTo(10)
	six := guesses(guess(0, 0), guess(1, 1), guess(2, 2), guess(3, 3), guess(8, 8), guess(9, 9))
	if fits, e := cipher.Fits(example(), ten, six); fits != 12 || e != api.OK {
		t.Errorf("Fits of ten codes with six guesses: %d, %v", fits, e)
	}
	if list, e := cipher.Possible(example(), ten, six, 7); !slices.Equal(list, numbers(7)) || e != api.OK {
		t.Errorf("Possible of ten codes with six guesses: %v, %v", list, e)
	}
	if list, e := cipher.Possible(full(), ten, guesses(guess(40, 0)), 9); len(list) != 41 || e != api.OK {
		t.Errorf("Possible of ten codes with one guess: %v, %v", list, e)
	}
}

// P4.1 to P4.5: the errors of all calls, in their order.
func TestErrorsInOrder(t *testing.T) {
	good := input{book: example(), numbers: numbers(0, 11, 0, 0, 9), lost: losses(loss(0, 1)), most: 2, guesses: guesses(guess(4, 1), guess(4, 3)), at: 2}
	with := func(change func(in *input)) input {
		in := good
		change(&in)
		return in
	}
	spoilt := input{day: 9, numbers: slices.Repeat(numbers(99), 13), lost: slices.Repeat(losses(loss(9, 9)), 7), most: 9, guesses: slices.Repeat(guesses(guess(99, 99)), 7), at: 99}
	none, noRange, noLimit := api.OK, api.ErrRange, api.ErrLimit
	for _, x := range []struct {
		what string
		in   input
		want []api.Errno
	}{
		{"what is valid", good, []api.Errno{none, none, none, none, none, none, none}},
		{"no book", spoilt, slices.Repeat([]api.Errno{api.ErrArg}, 7)},
		{"too many keys", with(func(in *input) { *in = spoilt; in.book.Keys = make([]cipher.Key, 6) }), slices.Repeat([]api.Errno{noLimit}, 7)},
		{"too many days", with(func(in *input) { *in = spoilt; in.book.Days = make([]int, 9) }), slices.Repeat([]api.Errno{noLimit}, 7)},
		{"all but the book", with(func(in *input) { *in = spoilt; in.book = example() }), []api.Errno{none, noRange, noRange, noLimit, noLimit, noLimit, noLimit}},
		{"all but the book and the day", with(func(in *input) { *in = spoilt; in.book, in.day = example(), 0 }), []api.Errno{none, noLimit, api.ErrForm, noLimit, noLimit, noLimit, noLimit}},
		{"no day", with(func(in *input) { in.day = 3 }), []api.Errno{none, noRange, noRange, none, none, none, none}},
		{"another day", with(func(in *input) { in.day = 1 }), []api.Errno{none, none, api.ErrState, none, none, none, none}},
		{"no number", with(func(in *input) { in.numbers = numbers(0, 13, 0, 0, 9) }), []api.Errno{none, noRange, api.ErrForm, none, none, noRange, noRange}},
		{"a number below 0", with(func(in *input) { in.numbers = numbers(0, 11, 0, 0, -4) }), []api.Errno{none, noRange, api.ErrForm, none, none, noRange, noRange}},
		{"eleven numbers", with(func(in *input) { in.numbers = make([]int, 11) }), []api.Errno{none, noLimit, none, none, none, noLimit, noLimit}},
		{"eleven numbers that are none", with(func(in *input) { in.numbers = slices.Repeat(numbers(13), 11) }), []api.Errno{none, noLimit, api.ErrForm, none, none, noLimit, noLimit}},
		{"a false check", with(func(in *input) { in.numbers = numbers(0, 11, 0, 0, 8) }), []api.Errno{none, none, api.ErrFalse, none, none, none, none}},
		{"no key lost", with(func(in *input) { in.lost = losses(loss(0, 1), loss(2, 0)) }), []api.Errno{none, none, none, noRange, noRange, none, none}},
		{"a lost key below 0", with(func(in *input) { in.lost = losses(loss(-1, 0)) }), []api.Errno{none, none, none, noRange, noRange, none, none}},
		{"lost on no day", with(func(in *input) { in.lost = losses(loss(0, 3), loss(0, 1)) }), []api.Errno{none, none, none, noRange, noRange, none, none}},
		{"lost on a day below 0", with(func(in *input) { in.lost = losses(loss(0, -1)) }), []api.Errno{none, none, none, noRange, noRange, none, none}},
		{"seven losses", with(func(in *input) { in.lost, in.most = slices.Repeat(losses(loss(9, 9)), 7), 9 }), []api.Errno{none, none, none, noLimit, noLimit, none, none}},
		{"six losses", with(func(in *input) { in.lost = slices.Repeat(losses(loss(0, 1)), 6) }), []api.Errno{none, none, none, none, none, none, none}},
		{"a number above the days", with(func(in *input) { in.most = 9 }), []api.Errno{none, none, none, none, noRange, none, none}},
		{"a number below 0", with(func(in *input) { in.most = -1 }), []api.Errno{none, none, none, none, noRange, none, none}},
		{"a great number, and all keys lost", with(func(in *input) { in.most, in.lost = 9, losses(loss(0, 0), loss(1, 0)) }), []api.Errno{none, none, none, none, noRange, none, none}},
		{"all keys lost", with(func(in *input) { in.lost = losses(loss(0, 0), loss(1, 0)) }), []api.Errno{none, none, none, none, api.ErrStuck, none, none}},
		{"seven guesses", with(func(in *input) { in.guesses, in.at = slices.Repeat(guesses(guess(99, 99)), 7), 99 }), []api.Errno{none, none, none, none, none, noLimit, noLimit}},
		{"seven guesses of codes that are none", with(func(in *input) { in.guesses, in.numbers = make([]cipher.Guess, 7), numbers(13) }), []api.Errno{none, noRange, api.ErrForm, none, none, noLimit, noLimit}},
		{"six guesses", with(func(in *input) { in.guesses = slices.Repeat(guesses(guess(4, 1)), 6) }), []api.Errno{none, none, none, none, none, none, none}},
		{"a guess of no plain number", with(func(in *input) { in.guesses = guesses(guess(4, 0), guess(13, 0)) }), []api.Errno{none, none, none, none, none, noRange, noRange}},
		{"a guess below 0", with(func(in *input) { in.guesses = guesses(guess(-1, 0)) }), []api.Errno{none, none, none, none, none, noRange, noRange}},
		{"a guess at no index", with(func(in *input) { in.guesses = guesses(guess(4, 5)) }), []api.Errno{none, none, none, none, none, noRange, noRange}},
		{"a guess at an index below 0", with(func(in *input) { in.guesses = guesses(guess(4, -1)) }), []api.Errno{none, none, none, none, none, noRange, noRange}},
		{"a guess of no codes", with(func(in *input) { in.numbers, in.guesses, in.at = nil, guesses(guess(0, 0)), 0 }), []api.Errno{none, none, api.ErrForm, none, none, noRange, noRange}},
		{"no codes", with(func(in *input) { in.numbers, in.guesses, in.at = nil, nil, 0 }), []api.Errno{none, none, api.ErrForm, none, none, none, noRange}},
		{"no index", with(func(in *input) { in.at = 5 }), []api.Errno{none, none, none, none, none, none, noRange}},
		{"an index below 0", with(func(in *input) { in.at = -1 }), []api.Errno{none, none, none, none, none, none, noRange}},
		{"no index, and no key that agrees", with(func(in *input) { in.at, in.guesses = 5, guesses(guess(4, 0), guess(5, 0)) }), []api.Errno{none, none, none, none, none, api.ErrFalse, noRange}},
		{"no key that agrees", with(func(in *input) { in.guesses = guesses(guess(4, 0), guess(5, 0)) }), []api.Errno{none, none, none, none, none, api.ErrFalse, api.ErrFalse}},
		{"the greatest numbers", with(func(in *input) {
			in.day, in.numbers, in.lost, in.most, in.guesses, in.at = math.MaxInt, numbers(math.MaxInt), losses(loss(math.MaxInt, math.MaxInt)), math.MaxInt, guesses(guess(math.MaxInt, math.MaxInt)), math.MaxInt
		}), []api.Errno{none, noRange, noRange, noRange, noRange, noRange, noRange}},
		{"the smallest numbers", with(func(in *input) {
			in.day, in.numbers, in.lost, in.most, in.guesses, in.at = math.MinInt, numbers(math.MinInt), losses(loss(math.MinInt, math.MinInt)), math.MinInt, guesses(guess(math.MinInt, math.MinInt)), math.MinInt
		}), []api.Errno{none, noRange, noRange, noRange, noRange, noRange, noRange}},
	} {
		results := x.in.all()
		if list := errorsOf(results); !slices.Equal(list, x.want) {
			t.Errorf("%s: %v, not %v", x.what, list, x.want)
		}
		failed(t, results)
	}
}

// P4.1, P4.2: random texts.
func TestCodesAsTheModel(t *testing.T) {
	nulls := 0
	eachBook(2000, func(r *rand.Rand, b cipher.Book) {
		day, plain := r.Intn(len(b.Days)), randomNumbers(r, b.Size, r.Intn(11))
		want := modelDispatch(b, day, plain)
		if list, e := cipher.Code(b, day, plain); !slices.Equal(list, want) || e != api.OK {
			t.Fatalf("%v: Code of %v on day %d: %v, %v, not %v", b, plain, day, list, e, want)
		}
		codes := randomNumbers(r, b.Size, r.Intn(11))
		dispatch := slices.Concat(want[:1], codes)
		dispatch = append(dispatch, checkOf(b.Size, dispatch))
		plain = modelPlain(b, day, codes)
		words := modelWords(b, plain)
		if p, w, e := cipher.Decode(b, day, dispatch); !slices.Equal(p, plain) || !slices.Equal(w, words) || e != api.OK {
			t.Fatalf("%v: Decode of %v on day %d: %v, %v, %v, not %v, %v", b, dispatch, day, p, w, e, plain, words)
		}
		if len(words) > 0 && len(words) < len(plain) {
			nulls++
		}
	})
	if nulls < 300 {
		t.Errorf("only %d texts with nulls", nulls)
	}
}

// P4.2: any numbers.
func TestAnyNumbersAsTheModel(t *testing.T) {
	counts := map[api.Errno]int{}
	eachBook(20000, func(r *rand.Rand, b cipher.Book) {
		day := r.Intn(len(b.Days))
		dispatch := randomNumbers(r, b.Size+r.Intn(2), 1+r.Intn(13))
		if r.Intn(3) > 0 {
			dispatch[0] = r.Intn(len(b.Keys))
		}
		last := len(dispatch) - 1
		want := api.OK
		switch {
		case last == 0 || last == 12 || slices.Max(dispatch) == b.Size:
			want = api.ErrForm
		case dispatch[0] != modelDispatch(b, day, nil)[0]:
			want = api.ErrState
		case dispatch[last] != checkOf(b.Size, dispatch[:last]):
			want = api.ErrFalse
		}
		if _, _, e := cipher.Decode(b, day, dispatch); e != want {
			t.Fatalf("%v: Decode of %v on day %d: %v, not %v", b, dispatch, day, e, want)
		}
		counts[want]++
	})
	for _, e := range []api.Errno{api.OK, api.ErrForm, api.ErrState, api.ErrFalse} {
		if counts[e] < 100 {
			t.Errorf("only %d with %v", counts[e], e)
		}
	}
}

// P4.3
func TestExposedAsTheModel(t *testing.T) {
	later := 0
	eachBook(2000, func(r *rand.Rand, b cipher.Book) {
		lost := randomLosses(r, b)
		want := modelExposed(b, lost)
		list, e := cipher.Exposed(b, lost)
		if !slices.Equal(list, want) || e != api.OK {
			t.Fatalf("%v: Exposed after %v: %v, %v, not %v", b, lost, list, e, want)
		}
		for day, first := range want {
			if first > day {
				later++
			}
		}
	})
	if later < 500 {
		t.Errorf("only %d days whose dispatches can be read later", later)
	}
}

// P4.4: all plans are tried.
func TestPlanAsTheModel(t *testing.T) {
	found, stuck, changing, notFirst := 0, 0, 0, 0
	eachSmall(400, func(r *rand.Rand, b cipher.Book, lost []cipher.Loss, most int) {
		want, fewest := modelPlan(b, lost, most)
		days, changes, e := cipher.Plan(b, lost, most)
		if want == nil {
			if e != api.ErrStuck || days != nil || changes != 0 {
				t.Fatalf("%v: Plan after %v with %d: %v, %d, %v", b, lost, most, days, changes, e)
			}
			stuck++
			return
		}
		if !slices.Equal(days, want) || changes != fewest || e != api.OK {
			t.Fatalf("%v: Plan after %v with %d: %v, %d, %v, not %v, %d", b, lost, most, days, changes, e, want, fewest)
		}
		found++
		if changes > 1 {
			changing++
		}
		if days[0] > 0 {
			notFirst++
		}
	})
	if found < 100 || stuck < 50 || changing < 20 || notFirst < 20 {
		t.Errorf("only %d best plans, %d without one; %d with several changes, %d that begin with a later key", found, stuck, changing, notFirst)
	}
}

// P4.4: as many keys and days as a book can have.
func TestPlanOfFullBooks(t *testing.T) {
	r := rand.New(rand.NewSource(8))
	for range 4 {
		b := randomBook(r, api.MaxCipherKeys, api.MaxCipherDays)
		var lost []cipher.Loss
		for range api.MaxCipherLost {
			lost = append(lost, randomLoss(r, b))
		}
		most := 2 + r.Intn(4)
		want, fewest := modelPlan(b, lost, most)
		days, changes, e := cipher.Plan(b, lost, most)
		if !slices.Equal(days, want) || changes != fewest || (e == api.OK) != (want != nil) {
			t.Errorf("%v: Plan after %v with %d: %v, %d, %v, not %v, %d", b, lost, most, days, changes, e, want, fewest)
		}
	}
}

// P4.5
func TestGuessesAsTheModel(t *testing.T) {
	wrong, some := 0, 0
	eachRiddle(60, true, func(r *rand.Rand, x riddle) {
		want, possible := modelGuessed(x.book.Size, x.codes, x.guesses)
		fits, e := cipher.Fits(x.book, x.codes, x.guesses)
		if fits != want || (e == api.OK) != (want > 0) || e != api.OK && e != api.ErrFalse {
			t.Fatalf("%v: Fits of %v with %v: %d, %v, not %d", x.book, x.codes, x.guesses, fits, e, want)
		}
		for at := range x.codes {
			list, f := cipher.Possible(x.book, x.codes, x.guesses, at)
			if !slices.Equal(list, possible[at]) || f != e {
				t.Fatalf("%v: Possible of %v with %v at %d: %v, %v, not %v", x.book, x.codes, x.guesses, at, list, f, possible[at])
			}
			if 1 < len(list) && len(list) < x.book.Size {
				some++
			}
		}
		if want == 0 {
			wrong++
		}
	})
	if wrong < 10 || some < 5 {
		t.Errorf("only %d with wrong guesses, %d with some possible numbers", wrong, some)
	}
}

// P1: whatever the arguments are, each call returns, and with an error it has no other result.
func TestAnyArguments(t *testing.T) {
	r := rand.New(rand.NewSource(10))
	some := func() int {
		return []int{math.MinInt, -1, 0, 0, 1, 1, 2, 3, 12, 13, 14, math.MaxInt}[r.Intn(12)]
	}
	list := func(most int) []int {
		var list []int
		for range r.Intn(most + 1) {
			list = append(list, some())
		}
		return list
	}
	for range 20000 {
		in := input{book: example(), day: some(), numbers: list(13), most: some(), at: some()}
		if r.Intn(2) == 0 {
			in.book = cipher.Book{Size: some(), Words: some(), Keys: make([]cipher.Key, r.Intn(7)), Days: list(9)}
			for i := range in.book.Keys {
				in.book.Keys[i] = cipher.Key{Mul: some(), Add: some(), Step: some()}
			}
		}
		for range r.Intn(8) {
			in.lost = append(in.lost, loss(some(), some()))
			in.guesses = append(in.guesses, guess(some(), some()))
		}
		failed(t, in.all())
		cipher.ProvePlan(in.book, in.lost, in.most, list(9), some())
	}
}

// R4: arguments are not written to, and results are in memory of their own.
func TestMemory(t *testing.T) {
	in := input{book: example(), numbers: numbers(0, 11, 0, 0, 9), lost: losses(loss(0, 1)), most: 2, guesses: guesses(guess(4, 1), guess(4, 3)), at: 2}
	// A book of words alone, whose plain texts and words are equal lists.
	in.book.Words = 13
	kept := in
	kept.book, kept.numbers, kept.lost, kept.guesses = clone(in.book), slices.Clone(in.numbers), slices.Clone(in.lost), slices.Clone(in.guesses)
	first, again := in.all(), in.all()
	plan := numbers(0, 1, 1)
	cipher.ProvePlan(in.book, in.lost, in.most, plan, 1)
	if !reflect.DeepEqual(in, kept) || !slices.Equal(plan, numbers(0, 1, 1)) {
		t.Fatalf("arguments became %v, %v", in, plan)
	}
	// All lists, those behind their ends included, are filled one by one; no other result may change.
	for i, x := range first {
		list, ok := x.([]int)
		if !ok {
			continue
		}
		list = list[:cap(list)]
		for j := range list {
			list[j] = 99
		}
		for j, y := range first {
			if j > i && !reflect.DeepEqual(y, again[j]) {
				t.Errorf("the result %d became %v with %d", j, y, i)
			}
		}
	}
	if !reflect.DeepEqual(in, kept) || !reflect.DeepEqual(in.all(), again) {
		t.Error("the arguments, or later results, changed with the results")
	}
}
