package cipher_test

import (
	"math/rand"
	"slices"

	"glister/api"
	"glister/cipher"
)

// A second reading of the chapter: numbers are decoded by coding all of them, days on which others have a key are tried one by one, and so are all plans and all keys.

// codeOf returns the code of a plain number, by counting on round a dial.
func codeOf(size int, k cipher.Key, plain, index int) int {
	n := k.Add
	for range plain {
		n = (n + k.Mul) % size
	}
	for range index {
		n = (n + k.Step) % size
	}
	return n
}

// checkOf returns the check of the numbers: the last one counts as often as there are numbers.
func checkOf(size int, numbers []int) int {
	sum := 0
	for i := range numbers {
		for _, n := range numbers[i:] {
			sum += n
		}
	}
	return sum % size
}

func keyOf(b cipher.Book, day int) cipher.Key { return b.Keys[b.Days[day]] }

func modelDispatch(b cipher.Book, day int, plain []int) []int {
	indicator := b.Days[day]
	for range day {
		indicator = (indicator + 1) % len(b.Keys)
	}
	list := []int{indicator}
	for i, n := range plain {
		list = append(list, codeOf(b.Size, keyOf(b, day), n, i))
	}
	return append(list, checkOf(b.Size, list))
}

func modelPlain(b cipher.Book, day int, codes []int) []int {
	var plain []int
	for i, c := range codes {
		for n := range b.Size {
			if codeOf(b.Size, keyOf(b, day), n, i) == c {
				plain = append(plain, n)
			}
		}
	}
	return plain
}

func modelWords(b cipher.Book, plain []int) []int {
	var words []int
	for _, n := range plain {
		if n < b.Words {
			words = append(words, n)
		}
	}
	return words
}

// has tells whether others have the key on the day.
func has(lost []cipher.Loss, key, day int) bool {
	return slices.ContainsFunc(lost, func(l cipher.Loss) bool { return l.Key == key && l.Day <= day })
}

func modelExposed(b cipher.Book, lost []cipher.Loss) []int {
	var list []int
	for day, key := range b.Days {
		first := -1
		for later := len(b.Days) - 1; later >= day; later-- {
			if has(lost, key, later) {
				first = later
			}
		}
		list = append(list, first)
	}
	return list
}

func isRight(lost []cipher.Loss, most int, days []int) bool {
	for day, key := range days {
		used := 0
		for _, other := range days {
			if other == key {
				used++
			}
		}
		if used > most || has(lost, key, day) {
			return false
		}
	}
	return true
}

// changesOf counts the changes: a list without repetitions that follow each other has one change less than keys.
func changesOf(days []int) int { return len(slices.Compact(slices.Clone(days))) - 1 }

// eachPlan calls the test with each plan of the book, in lexicographic order.
func eachPlan(b cipher.Book, test func(days []int)) {
	var add func(days []int)
	add = func(days []int) {
		if len(days) == len(b.Days) {
			test(days)
			return
		}
		for key := range b.Keys {
			add(append(slices.Clone(days), key))
		}
	}
	add(nil)
}

// modelPlan returns the best plan, or nil and no changes if no plan is right.
func modelPlan(b cipher.Book, lost []cipher.Loss, most int) ([]int, int) {
	var best []int
	eachPlan(b, func(days []int) {
		if isRight(lost, most, days) && (best == nil || changesOf(days) < changesOf(best)) {
			best = slices.Clone(days)
		}
	})
	return best, max(changesOf(best), 0)
}

// eachKey calls the test with each key that a book of the size can have.
func eachKey(size int, test func(k cipher.Key)) {
	for mul := 1; mul < size; mul++ {
		for add := range size {
			for step := range size {
				test(cipher.Key{Mul: mul, Add: add, Step: step})
			}
		}
	}
}

// modelGuessed returns the number of keys that agree, and the plain numbers that are possible at each index.
func modelGuessed(size int, codes []int, guesses []cipher.Guess) (fits int, possible [][]int) {
	found := make([]map[int]bool, len(codes))
	for i := range found {
		found[i] = map[int]bool{}
	}
	eachKey(size, func(k cipher.Key) {
		for _, g := range guesses {
			if (g.Plain*k.Mul+g.At*k.Step+k.Add-codes[g.At])%size != 0 {
				return
			}
		}
		fits++
		for at, c := range codes {
			if len(found[at]) == size {
				continue
			}
			for n := range size {
				if (n*k.Mul+at*k.Step+k.Add-c)%size == 0 {
					found[at][n] = true
				}
			}
		}
	})
	for _, f := range found {
		var list []int
		for n := range size {
			if f[n] {
				list = append(list, n)
			}
		}
		possible = append(possible, list)
	}
	return fits, possible
}

// sizes are all that a book can have.
func sizes() []int { return []int{13, 17, 19, 23, 29, 31, 37, 41} }

func randomKey(r *rand.Rand, size int) cipher.Key {
	return cipher.Key{Mul: 1 + r.Intn(size-1), Add: r.Intn(size), Step: r.Intn(size)}
}

// randomBook makes a valid book with that many keys and days.
func randomBook(r *rand.Rand, keys, days int) cipher.Book {
	size := sizes()[r.Intn(8)]
	b := cipher.Book{Size: size, Words: 1 + r.Intn(size)}
	for range keys {
		b.Keys = append(b.Keys, randomKey(r, size))
	}
	for range days {
		b.Days = append(b.Days, r.Intn(keys))
	}
	return b
}

func randomNumbers(r *rand.Rand, size, many int) []int {
	var list []int
	for range many {
		list = append(list, r.Intn(size))
	}
	return list
}

func randomLoss(r *rand.Rand, b cipher.Book) cipher.Loss {
	return cipher.Loss{Key: r.Intn(len(b.Keys)), Day: r.Intn(len(b.Days))}
}

func randomLosses(r *rand.Rand, b cipher.Book) []cipher.Loss {
	var lost []cipher.Loss
	for range r.Intn(api.MaxCipherLost + 1) {
		lost = append(lost, randomLoss(r, b))
	}
	return lost
}

// eachBook calls the test with random books of any size, always the same ones.
func eachBook(many int, test func(r *rand.Rand, b cipher.Book)) {
	r := rand.New(rand.NewSource(5))
	for range many {
		test(r, randomBook(r, 1+r.Intn(api.MaxCipherKeys), 1+r.Intn(api.MaxCipherDays)))
	}
}

// eachSmall calls the test with random books that are small enough to try all plans, always the same ones; with losses and a number.
func eachSmall(many int, test func(r *rand.Rand, b cipher.Book, lost []cipher.Loss, most int)) {
	r := rand.New(rand.NewSource(6))
	for range many {
		keys := 1 + r.Intn(api.MaxCipherKeys)
		days := 1 + r.Intn([]int{8, 8, 7, 5, 5}[keys-1])
		b := randomBook(r, keys, days)
		test(r, b, randomLosses(r, b), min((days+keys-1)/keys+r.Intn(4)-1, api.MaxCipherDays))
	}
}

// riddle has codes of a plain text by a key, and guesses, of which some may be wrong.
type riddle struct {
	book         cipher.Book
	key          cipher.Key
	plain, codes []int
	guesses      []cipher.Guess
}

func randomRiddle(r *rand.Rand, wrong bool) riddle {
	x := riddle{book: randomBook(r, 1, 1)}
	size := x.book.Size
	x.key = randomKey(r, size)
	x.plain = randomNumbers(r, size, r.Intn(api.MaxCipherPlain+1))
	for i, n := range x.plain {
		x.codes = append(x.codes, codeOf(size, x.key, n, i))
	}
	if len(x.plain) == 0 {
		return x
	}
	for range r.Intn(api.MaxCipherGuesses + 1) {
		at := r.Intn(len(x.plain))
		g := cipher.Guess{At: at, Plain: x.plain[at]}
		if wrong && r.Intn(4) == 0 {
			g.Plain = r.Intn(size)
		}
		x.guesses = append(x.guesses, g)
	}
	return x
}

// eachRiddle calls the test with random riddles, always the same ones.
func eachRiddle(many int, wrong bool, test func(r *rand.Rand, x riddle)) {
	r := rand.New(rand.NewSource(7))
	for range many {
		test(r, randomRiddle(r, wrong))
	}
}

// upTo lists the numbers below n.
func upTo(n int) []int {
	var list []int
	for i := range n {
		list = append(list, i)
	}
	return list
}

// clone copies a book with all its lists.
func clone(b cipher.Book) cipher.Book {
	b.Keys, b.Days = slices.Clone(b.Keys), slices.Clone(b.Days)
	return b
}
