package flash

import (
	"strings"

	"glister/api"
	"glister/lists"
)

// The signs, as they are written.
const (
	point  = "."
	hyphen = "-"
	gap    = " "
)

// marks are the bytes that a string may have.
type marks string

const (
	flashes  marks = point + hyphen
	allSigns marks = flashes + gap
)

func (m marks) have(b byte) bool { return strings.IndexByte(string(m), b) >= 0 }

func (m marks) spell(s string) bool { return lists.Every([]byte(s), m.have) }

// valid tells whether a code that exceeds no limit is as the document describes.
func (c Code) valid() bool {
	fits := func(s string) bool { return 1 <= len(s) && len(s) <= api.MaxFlashSigns }
	return len(c.Letters) > 0 && lists.Every(c.Letters, fits) && lists.Every(c.Letters, flashes.spell) && differ(c.Letters)
}

func (c Code) hasLetter(n int) bool { return 0 <= n && n < len(c.Letters) }

// checkSigns returns the error of strings of signs, or OK.
func checkSigns(list ...string) api.Errno {
	fits := func(s string) bool { return len(s) <= api.MaxFlashRead }
	switch {
	case !lists.Every(list, fits):
		return api.ErrLimit
	case !lists.Every(list, allSigns.spell):
		return api.ErrForm
	}
	return api.OK
}

// checkTexts returns the error of texts of which a part is to be repeated, or OK.
func checkTexts(texts [][]int) api.Errno {
	fits := func(text []int) bool { return len(text) <= api.MaxFlashText }
	known := func(letter int) bool { return 0 <= letter && letter < api.MaxFlashLetters }
	spelled := func(text []int) bool { return lists.Every(text, known) }
	switch {
	case len(texts) > api.MaxFlashTexts || !lists.Every(texts, fits):
		return api.ErrLimit
	case len(texts) == 0 || !lists.Every(texts, spelled):
		return api.ErrRange
	case !decides(texts, 0, api.MaxFlashText):
		return api.ErrTwice
	}
	return api.OK
}

// differ tells whether no two elements are equal.
func differ[T comparable](list []T) bool {
	seen := map[T]bool{}
	for _, x := range list {
		if seen[x] {
			return false
		}
		seen[x] = true
	}
	return true
}

// least returns the smallest of the numbers.
func least(first int, others ...int) int {
	for _, n := range others {
		first = min(first, n)
	}
	return first
}
