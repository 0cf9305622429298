package flash

import (
	"cmp"
	"slices"
	"strings"

	"glister/api"
)

// added returns the signs that a letter adds to a text: a gap before it, unless it is the first one, and its flashes.
func (c Code) added(letter int, first bool) string {
	if first {
		return c.Letters[letter]
	}
	return gap + c.Letters[letter]
}

// signs returns the signs of a text.
func (c Code) signs(text []int) string {
	var all strings.Builder
	for i, letter := range text {
		all.WriteString(c.added(letter, i == 0))
	}
	return all.String()
}

// row has the fewest errors of each beginning of what is read, by its length, after some signs were sent; never, if they are too many.
type row [api.MaxFlashRead + 1]int

// hopeless is the row of signs that no beginning of what is read can come from.
func hopeless() row {
	var r row
	for i := range r {
		r[i] = never
	}
	return r
}

// reader is a reader at work, who reads letters of the code and makes at most so many errors.
type reader struct {
	Code
	read   string
	errors int
}

// start returns the row before anything was sent: only gaps can have been written.
func (r reader) start() row {
	before := hopeless()
	before[0] = 0
	return r.send(before, "")
}

// send returns the row after more signs were sent. These begin with a letter or with the gap before it, so that no step goes through signs before them and of them.
func (r reader) send(before row, more string) row {
	l := newLines(more, r.read)
	rows := slices.Repeat([]row{hopeless()}, len(more)+1)
	rows[0] = before
	// A step leads to a row that is later, or to a later beginning in the same row: what it starts from is complete.
	for sent := range rows {
		for read := range len(r.read) + 1 {
			errors := rows[sent][read]
			if errors == never {
				continue
			}
			for step, after := range l.next(place{sent, read}) {
				if sum := errors + l.kinds[step].errors; sum <= r.errors {
					old := rows[after.sent][after.read]
					rows[after.sent][after.read] = least(old, sum)
				}
			}
		}
	}
	return rows[len(more)]
}

// texts returns all texts of at most so many letters that can have been sent, in order.
func (r reader) texts(letters int) [][]int {
	var found [][]int
	none := hopeless()
	var add func(text []int, errors row)
	add = func(text []int, errors row) {
		if errors == none {
			return
		}
		if errors[len(r.read)] != never {
			found = append(found, slices.Clone(text))
		}
		if len(text) == letters {
			return
		}
		for letter := range r.Letters {
			more := r.added(letter, len(text) == 0)
			add(append(slices.Clone(text), letter), r.send(errors, more))
		}
	}
	add(nil, r.start())
	slices.SortFunc(found, inOrder)
	return found
}

// inOrder compares texts: shorter ones are first, then those that are lexicographically before.
func inOrder(a, b []int) int {
	return cmp.Or(cmp.Compare(len(a), len(b)), slices.Compare(a, b))
}
