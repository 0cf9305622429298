package cipher

import (
	"iter"

	"glister/api"
	"glister/lists"
)

// riddle has codes by an unknown key of a book, and what others guess of them.
type riddle struct {
	desk
	codes   []int
	guesses []Guess
}

// read returns the codes with the guesses, or the error of a call that is about them.
func read(b Book, codes []int, guesses []Guess) (riddle, api.Errno) {
	d, e := open(b)
	if e != api.OK {
		return riddle{}, e
	}
	r := riddle{desk: d, codes: codes, guesses: guesses}
	switch {
	case len(codes) > api.MaxCipherPlain || len(guesses) > api.MaxCipherGuesses:
		return riddle{}, api.ErrLimit
	case !lists.Every(codes, d.isPlain) || !lists.Every(guesses, r.isGuess):
		return riddle{}, api.ErrRange
	}
	return r, api.OK
}

func (r riddle) hasCode(at int) bool { return below(at, len(r.codes)) }

func (r riddle) isGuess(g Guess) bool { return r.hasCode(g.At) && r.isPlain(g.Plain) }

// agrees tells whether all guesses have their codes by the key.
func (r riddle) agrees(c cog) bool {
	return lists.Every(r.guesses, func(g Guess) bool { return c.code(g.Plain, g.At) == r.codes[g.At] })
}

// agreeing yields all keys of the size that agree, whether the book has them or not.
func (r riddle) agreeing() iter.Seq[cog] {
	return func(yield func(cog) bool) {
		for less := range r.Size - 1 {
			c := newCog(Key{Mul: less + 1}, r.Size)
			for add := range r.Size {
				for step := range r.Size {
					c.Add, c.Step = add, step
					if r.agrees(c) && !yield(c) {
						return
					}
				}
			}
		}
	}
}

// fits returns the number of keys that agree.
func (r riddle) fits() int {
	many := 0
	for range r.agreeing() {
		many++
	}
	return many
}

// possible returns all plain numbers that have the code at the index by some key that agrees, rising.
func (r riddle) possible(at int) []int {
	var found [api.MaxCipherSize]bool
	for c := range r.agreeing() {
		found[c.plain(r.codes[at], at)] = true
	}
	var list []int
	for n := range r.Size {
		if found[n] {
			list = append(list, n)
		}
	}
	return list
}
