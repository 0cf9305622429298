package mask

import (
	"cmp"
	"iter"
	"slices"

	"glister/api"
	"glister/flash"
)

// parts yields all parts of the text of the dispatch; they share its memory.
func (s Sent) parts() iter.Seq[[]int] {
	return func(yield func([]int) bool) {
		for from := range s.Text {
			for end := from + 1; end <= len(s.Text); end++ {
				if !yield(s.Text[from:end]) {
					return
				}
			}
		}
	}
}

// hears tells whether the false station hears the dispatch.
func (l Log) hears(s Sent) bool {
	from := l.Sees[s.Station]
	return from != Never && from <= s.Hour
}

// heard returns all texts that the false station can send at the hour, in order.
func (l Log) heard(hour int) [][]int {
	var texts [][]int
	for _, s := range l.Journal {
		if s.Hour >= hour || !l.hears(s) {
			continue
		}
		for part := range s.parts() {
			texts = append(texts, slices.Clone(part))
		}
	}
	slices.SortFunc(texts, inOrder)
	return slices.CompactFunc(texts, slices.Equal)
}

// inOrder compares texts: shorter ones are first, then those that are lexicographically before.
func inOrder(a, b []int) int {
	return cmp.Or(cmp.Compare(len(a), len(b)), slices.Compare(a, b))
}

// canBeRead tells whether the text can be read as the record.
func (l Log) canBeRead(text []int, r Record) bool {
	signs, _ := flash.Send(l.Code, text)
	errors, e := flash.Errors(signs, r.Read)
	return e == api.OK && errors <= l.Errors
}

// isOne tells whether the dispatch is one of the record.
func (l Log) isOne(s Sent, r Record) bool {
	return s.Hour == r.Hour && s.Station == r.Station && l.canBeRead(s.Text, r)
}

// masked returns the first text that the false station can have sent as the record, if there is one.
func (l Log) masked(record int) ([]int, bool) {
	r := l.Records[record]
	for _, text := range l.heard(r.Hour) {
		if l.canBeRead(text, r) {
			return text, true
		}
	}
	return nil, false
}
