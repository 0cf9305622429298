package flash

import (
	"iter"
	"strings"

	"glister/api"
)

// never stands for the errors of what no steps explain: no list of steps has as many.
const never = 3 * api.MaxFlashRead

// rest has the signs that are still to be sent.
type rest string

func (r rest) begins(signs string) bool { return strings.HasPrefix(string(r), signs) }

func (r rest) some() bool      { return len(r) > 0 }
func (r rest) flash() bool     { return r.begins(point) || r.begins(hyphen) }
func (r rest) long() bool      { return r.begins(hyphen) }
func (r rest) twoPoints() bool { return r.begins(point + point) }
func (r rest) gap() bool       { return r.begins(gap) }
func (r rest) whatever() bool  { return true }

func (r rest) same() string    { return string(r[:1]) }
func (r rest) nothing() string { return "" }
func (r rest) asShort() string { return point + point }
func (r rest) asLong() string  { return hyphen }
func (r rest) asGap() string   { return gap }

// kind is a kind of step: whether it can go through what is still to be sent, what it writes then, how many signs it goes through, and its errors.
type kind struct {
	needs  func(rest) bool
	writes func(rest) string
	takes  int
	errors int
}

// kinds has the kinds of steps, by their numbers.
type kinds [Gap + 1]kind

func allKinds() kinds {
	return kinds{
		Copy:  {rest.some, rest.same, 1, 0},
		Miss:  {rest.flash, rest.nothing, 1, 1},
		Split: {rest.long, rest.asShort, 1, 1},
		Join:  {rest.twoPoints, rest.asLong, 2, 1},
		Run:   {rest.gap, rest.nothing, 1, 1},
		Gap:   {rest.whatever, rest.asGap, 0, 1},
	}
}

// place is how far a reader is: how many signs were sent, and how many were written.
type place struct{ sent, read int }

// lines has what is sent, and what is read.
type lines struct {
	sent, read string
	kinds      kinds
}

func newLines(sent, read string) *lines { return &lines{sent, read, allKinds()} }

func (l *lines) end() place { return place{len(l.sent), len(l.read)} }

// after returns the place after a step, if the step can be next and writes what is read.
func (l *lines) after(at place, step int) (place, bool) {
	k, left := l.kinds[step], rest(l.sent[at.sent:])
	if !k.needs(left) {
		return place{}, false
	}
	written := k.writes(left)
	if !strings.HasPrefix(l.read[at.read:], written) {
		return place{}, false
	}
	return place{at.sent + k.takes, at.read + len(written)}, true
}

// next yields the steps that can be next, rising, each with the place after it.
func (l *lines) next(at place) iter.Seq2[int, place] {
	return func(yield func(int, place) bool) {
		for step := range l.kinds {
			if after, can := l.after(at, step); can && !yield(step, after) {
				return
			}
		}
	}
}

// follow returns the errors of the steps, and whether they explain what is read by what is sent.
func (l *lines) follow(steps []int) (int, bool) {
	at, errors := place{}, 0
	for _, step := range steps {
		if step < 0 || step >= len(l.kinds) {
			return 0, false
		}
		after, can := l.after(at, step)
		if !can {
			return 0, false
		}
		at, errors = after, errors+l.kinds[step].errors
	}
	return errors, at == l.end()
}

// search looks for the best steps. It keeps the fewest errors from each place on, where they are known.
type search struct {
	*lines
	known map[place]int
}

// explain returns the search of both strings, or their error.
func explain(sent, read string) (*search, api.Errno) {
	if e := checkSigns(sent, read); e != api.OK {
		return nil, e
	}
	s := &search{newLines(sent, read), map[place]int{}}
	if s.fewest(place{}) == never {
		return nil, api.ErrFalse
	}
	return s, api.OK
}

// fewest returns the fewest errors from the place to the end, or never.
func (s *search) fewest(at place) int {
	if at == s.end() {
		return 0
	}
	if errors, known := s.known[at]; known {
		return errors
	}
	errors := never
	for step, after := range s.next(at) {
		errors = least(errors, s.kinds[step].errors+s.fewest(after))
	}
	s.known[at] = errors
	return errors
}

// first returns the first explanation: at each place the first step that leads to the end with the fewest errors. There must be one.
func (s *search) first() []int {
	var steps []int
	for at := (place{}); at != s.end(); {
		for step, after := range s.next(at) {
			if s.kinds[step].errors+s.fewest(after) == s.fewest(at) {
				steps, at = append(steps, step), after
				break
			}
		}
	}
	return steps
}
