package flash_test

import (
	"math/rand"
	"slices"
	"strings"

	"glister/api"
	"glister/flash"
)

// A second reading of the chapter: the steps are a list of what they turn into what, strings are taken apart from their ends, and texts are tried one by one.

type turn struct {
	step       int
	sent, read string
	errors     int
}

func turns() []turn {
	return []turn{
		{flash.Copy, ".", ".", 0}, {flash.Copy, "-", "-", 0}, {flash.Copy, " ", " ", 0},
		{flash.Miss, ".", "", 1}, {flash.Miss, "-", "", 1},
		{flash.Split, "-", "..", 1}, {flash.Join, "..", "-", 1},
		{flash.Run, " ", "", 1}, {flash.Gap, "", " ", 1},
	}
}

// tooMany are more errors than any steps have.
const tooMany = 1000

// modelFewest returns the fewest errors, or tooMany; known keeps those of shorter strings.
func modelFewest(known map[[2]string]int, sent, read string) int {
	if sent+read == "" {
		return 0
	}
	if n, ok := known[[2]string{sent, read}]; ok {
		return n
	}
	fewest := tooMany
	for _, t := range turns() {
		a, ok := strings.CutSuffix(sent, t.sent)
		b, also := strings.CutSuffix(read, t.read)
		if ok && also {
			fewest = min(fewest, modelFewest(known, a, b)+t.errors)
		}
	}
	known[[2]string{sent, read}] = fewest
	return fewest
}

func model(sent, read string) int { return modelFewest(map[[2]string]int{}, sent, read) }

// eachSteps calls the visit with each list of steps that explains, with at most so many errors, in any order.
func eachSteps(sent, read string, errors int, visit func(steps []int, errors int)) {
	var try func(steps []int, a, b string, made int)
	try = func(steps []int, a, b string, made int) {
		if a+b == "" {
			visit(steps, made)
		}
		for _, t := range turns() {
			x, ok := strings.CutPrefix(a, t.sent)
			y, also := strings.CutPrefix(b, t.read)
			if ok && also && made+t.errors <= errors {
				try(append(slices.Clone(steps), t.step), x, y, made+t.errors)
			}
		}
	}
	try(nil, sent, read, 0)
}

// misread returns what some reader writes, and the steps, with at most so many errors.
func misread(r *rand.Rand, sent string, errors int) (string, []int, int) {
	var read strings.Builder
	var steps []int
	made := 0
	for sent != "" || made < errors && r.Intn(3) == 0 {
		list := turns()
		t := list[r.Intn(len(list))]
		rest, fits := strings.CutPrefix(sent, t.sent)
		if !fits || made+t.errors > errors || t.errors > 0 && r.Intn(2) == 0 {
			continue
		}
		sent, made, steps = rest, made+t.errors, append(steps, t.step)
		read.WriteString(t.read)
	}
	return read.String(), steps, made
}

// eachText calls the visit with all texts of at most so many letters, in order.
func eachText(letters, many int, visit func(text []int)) {
	row := [][]int{nil}
	for length := 0; length <= many; length++ {
		var longer [][]int
		for _, text := range row {
			visit(text)
			for letter := range letters {
				longer = append(longer, append(slices.Clone(text), letter))
			}
		}
		row = longer
	}
}

// signsOf returns the signs of a text.
func signsOf(c flash.Code, text []int) string {
	var list []string
	for _, letter := range text {
		list = append(list, c.Letters[letter])
	}
	return strings.Join(list, " ")
}

func modelTexts(c flash.Code, read string, errors, letters int) [][]int {
	var found [][]int
	known := map[[2]string]int{}
	eachText(len(c.Letters), letters, func(text []int) {
		if modelFewest(known, signsOf(c, text), read) <= errors {
			found = append(found, text)
		}
	})
	return found
}

// lettersOf returns the letters of the part of a text.
func lettersOf(text []int, from, many int) []int {
	from = min(from, len(text))
	return text[from:min(from+many, len(text))]
}

func modelDecides(texts [][]int, from, many int) bool {
	for i := range texts {
		for j := range i {
			if slices.Equal(lettersOf(texts[i], from, many), lettersOf(texts[j], from, many)) {
				return false
			}
		}
	}
	return true
}

func randomSigns(r *rand.Rand, most int) string {
	b := make([]byte, r.Intn(most+1))
	for i := range b {
		b[i] = ".- "[r.Intn(3)]
	}
	return string(b)
}

// allFlashes lists the flashes that a letter can have.
func allFlashes() []string {
	var list []string
	row := []string{""}
	for range api.MaxFlashSigns {
		var longer []string
		for _, s := range row {
			longer = append(longer, s+".", s+"-")
		}
		list, row = append(list, longer...), longer
	}
	return list
}

func randomCode(r *rand.Rand, letters int) flash.Code {
	list := allFlashes()
	if r.Intn(2) == 0 {
		list = list[:6]
	}
	r.Shuffle(len(list), func(i, j int) { list[i], list[j] = list[j], list[i] })
	return flash.Code{Letters: list[:1+r.Intn(letters)]}
}

func randomText(r *rand.Rand, letters, most int) []int {
	text := make([]int, r.Intn(most+1))
	for i := range text {
		text[i] = r.Intn(letters)
	}
	return text
}

// randomTexts makes texts of which no two are equal.
func randomTexts(r *rand.Rand, most int) [][]int {
	letters := 1 + r.Intn(api.MaxFlashLetters)
	var texts [][]int
	for range 1 + r.Intn(most) {
		text := randomText(r, letters, api.MaxFlashText)
		if !slices.ContainsFunc(texts, func(t []int) bool { return slices.Equal(t, text) }) {
			texts = append(texts, text)
		}
	}
	return texts
}

// same compares lists of texts; nil and a list without elements are the same.
func same(a, b [][]int) bool {
	return slices.EqualFunc(a, b, func(x, y []int) bool { return slices.Equal(x, y) })
}

func hasText(list [][]int, text []int) bool {
	return slices.ContainsFunc(list, func(t []int) bool { return slices.Equal(t, text) })
}

// eachRandom calls the test with a source of random numbers, which are always the same.
func eachRandom(many int, test func(r *rand.Rand)) {
	r := rand.New(rand.NewSource(2))
	for range many {
		test(r)
	}
}
