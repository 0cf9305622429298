package mask_test

import (
	"math/rand"
	"slices"
	"strings"

	"glister/api"
	"glister/flash"
	"glister/mask"
)

// A second reading of the chapter: what readers can write is found error by error; all texts of the code, all assignments and all sets of records are tried.

// modelSigns returns the flashes of the letters with gaps between them.
func modelSigns(c flash.Code, text []int) string {
	var list []string
	for _, letter := range text {
		list = append(list, c.Letters[letter])
	}
	return strings.Join(list, " ")
}

// copying is what is still to be sent, and what is still to be written.
type copying struct{ sent, read string }

// mistakes returns what is left after each single error that a reader can make now.
func (c copying) mistakes() []copying {
	var list []copying
	if len(c.sent) > 0 {
		list = append(list, copying{c.sent[1:], c.read}) // a flash is missed, or a gap run over
	}
	for _, x := range []copying{{"-", ".."}, {"..", "-"}, {"", " "}} {
		if strings.HasPrefix(c.sent, x.sent) && strings.HasPrefix(c.read, x.read) {
			list = append(list, copying{c.sent[len(x.sent):], c.read[len(x.read):]})
		}
	}
	return list
}

// isRead tells whether what is sent can be read so with at most so many errors: these are made one after the other, with any number of signs copied before each.
func isRead(sent, read string, errors int) bool {
	reached := []copying{{sent, read}}
	for made := 0; ; made++ {
		for i := 0; i < len(reached); i++ {
			c := reached[i]
			if len(c.sent) > 0 && len(c.read) > 0 && c.sent[0] == c.read[0] {
				if next := (copying{c.sent[1:], c.read[1:]}); !slices.Contains(reached, next) {
					reached = append(reached, next)
				}
			}
		}
		if slices.Contains(reached, copying{}) {
			return true
		}
		if made == errors {
			return false
		}
		for _, c := range slices.Clone(reached) {
			for _, next := range c.mistakes() {
				if !slices.Contains(reached, next) {
					reached = append(reached, next)
				}
			}
		}
	}
}

// allTexts returns all texts of the code that are not empty, in order.
func allTexts(c flash.Code) [][]int {
	var list [][]int
	longest := [][]int{nil}
	for range api.MaxFlashText {
		var longer [][]int
		for _, text := range longest {
			for letter := range c.Letters {
				longer = append(longer, append(slices.Clone(text), letter))
			}
		}
		list, longest = append(list, longer...), longer
	}
	return list
}

// isPart tells whether the letters of the part are next to each other in the text.
func isPart(part, text []int) bool {
	for from := range text {
		if len(part) <= len(text)-from && slices.Equal(part, text[from:from+len(part)]) {
			return true
		}
	}
	return false
}

// modelCanSend tells whether the false station can send the text at the hour.
func modelCanSend(l mask.Log, text []int, hour int) bool {
	return slices.ContainsFunc(l.Journal, func(s mask.Sent) bool {
		sees := l.Sees[s.Station]
		return sees != mask.Never && sees <= s.Hour && s.Hour < hour && isPart(text, s.Text)
	})
}

func modelHeard(l mask.Log, hour int) [][]int {
	return slices.DeleteFunc(allTexts(l.Code), func(text []int) bool { return !modelCanSend(l, text, hour) })
}

// modelMasked returns nil if the record cannot be false.
func modelMasked(l mask.Log, record int) []int {
	x := l.Records[record]
	for _, text := range modelHeard(l, x.Hour) {
		if isRead(modelSigns(l.Code, text), x.Read, l.Errors) {
			return text
		}
	}
	return nil
}

func modelOwn(l mask.Log, record int) []int {
	var list []int
	x := l.Records[record]
	for i, s := range l.Journal {
		if s.Hour == x.Hour && s.Station == x.Station && isRead(modelSigns(l.Code, s.Text), x.Read, l.Errors) {
			list = append(list, i)
		}
	}
	return list
}

// eachList calls the test with each list of so many numbers, from Mask to most, in lexicographic order.
func eachList(many, most int, test func(by []int)) {
	by := slices.Repeat([]int{mask.Mask}, many)
	for {
		test(slices.Clone(by))
		last := many - 1
		for last >= 0 && by[last] == most {
			by[last] = mask.Mask
			last--
		}
		if last < 0 {
			return
		}
		by[last]++
	}
}

// modelAssignments returns all assignments, in lexicographic order.
func modelAssignments(l mask.Log) [][]int {
	can := make([][]bool, len(l.Records))
	for record := range l.Records {
		can[record] = make([]bool, len(l.Journal)+1)
		can[record][0] = modelMasked(l, record) != nil
		for _, dispatch := range modelOwn(l, record) {
			can[record][dispatch+1] = true
		}
	}
	var list [][]int
	eachList(len(l.Records), len(l.Journal)-1, func(by []int) {
		used := map[int]bool{}
		for record, n := range by {
			if !can[record][n+1] || n != mask.Mask && used[n] {
				return
			}
			used[n] = true
		}
		list = append(list, by)
	})
	return list
}

// masksIn counts how often Mask is in the list.
func masksIn(by []int) int {
	many := 0
	for _, n := range by {
		if n == mask.Mask {
			many++
		}
	}
	return many
}

// modelBest returns the best one of some assignments in lexicographic order.
func modelBest(assignments [][]int) []int {
	best := assignments[0]
	for _, by := range assignments {
		if masksIn(by) < masksIn(best) {
			best = by
		}
	}
	return best
}

func modelVerdicts(assignments [][]int) []int {
	var list []int
	for record := range assignments[0] {
		isMask := func(by []int) bool { return by[record] == mask.Mask }
		isTrue := func(by []int) bool { return !isMask(by) }
		switch {
		case !slices.ContainsFunc(assignments, isMask):
			list = append(list, mask.True)
		case !slices.ContainsFunc(assignments, isTrue):
			list = append(list, mask.False)
		default:
			list = append(list, mask.Open)
		}
	}
	return list
}

// leaveOut returns the log without the records of the list.
func leaveOut(l mask.Log, list []int) mask.Log {
	var others []mask.Record
	for i, x := range l.Records {
		if !slices.Contains(list, i) {
			others = append(others, x)
		}
	}
	l.Records = others
	return l
}

// eachSet calls the test with each set of indexes below many.
func eachSet(many int, test func(list []int)) {
	for set := range 1 << many {
		var list []int
		for i := range many {
			if set>>i&1 == 1 {
				list = append(list, i)
			}
		}
		test(list)
	}
}

func modelLeave(l mask.Log) []int {
	best := upTo(len(l.Records))
	eachSet(len(l.Records), func(list []int) {
		before := len(list) < len(best) || len(list) == len(best) && slices.Compare(list, best) < 0
		if before && len(modelAssignments(leaveOut(l, list))) > 0 {
			best = list
		}
	})
	return best
}

// upTo lists the numbers below n.
func upTo(n int) []int {
	var list []int
	for i := range n {
		list = append(list, i)
	}
	return list
}

// scale tells how large random logs are.
type scale struct{ letters, errors, stations, hours, sent, records int }

var (
	large = scale{api.MaxFlashLetters, api.MaxFlashErrors, api.MaxMaskStations, api.MaxMaskHour + 1, api.MaxMaskSent, api.MaxMaskRecords}
	dense = scale{4, 2, 2, 3, api.MaxMaskSent, api.MaxMaskRecords}
	small = scale{3, 2, 2, 3, 4, 4}
)

func randomCode(r *rand.Rand, s scale) flash.Code {
	var c flash.Code
	for many := 1 + r.Intn(s.letters); len(c.Letters) < many; {
		flashes := ""
		for range 1 + r.Intn(api.MaxFlashSigns) {
			flashes += []string{".", "-"}[r.Intn(2)]
		}
		if !slices.Contains(c.Letters, flashes) {
			c.Letters = append(c.Letters, flashes)
		}
	}
	return c
}

// randomText makes a text of the code that is seldom long.
func randomText(r *rand.Rand, c flash.Code) []int {
	var text []int
	for range 1 + min(r.Intn(api.MaxFlashText), r.Intn(api.MaxFlashText)) {
		text = append(text, r.Intn(len(c.Letters)))
	}
	return text
}

// misread reads the signs with at most so many errors.
func misread(r *rand.Rand, signs string, errors int) string {
	read := ""
	for left := signs; ; {
		c := copying{left, ""}
		if errors > 0 && r.Intn(6) == 0 {
			switch {
			case r.Intn(5) == 0:
				read += " "
			case strings.HasPrefix(c.sent, "-") && r.Intn(2) == 0:
				read, left = read+"..", left[1:]
			case strings.HasPrefix(c.sent, "..") && r.Intn(2) == 0:
				read, left = read+"-", left[2:]
			case left != "":
				left = left[1:]
			}
			errors--
			continue
		}
		if left == "" {
			return read
		}
		read, left = read+left[:1], left[1:]
	}
}

// randomPart picks a part of a text.
func randomPart(r *rand.Rand, text []int) []int {
	from := r.Intn(len(text))
	return text[from : from+1+r.Intn(len(text)-from)]
}

// randomRecord makes a record that often comes from a dispatch, from a part of one, or, with too many errors, from neither.
func randomRecord(r *rand.Rand, l mask.Log, s scale) mask.Record {
	x := mask.Record{Hour: r.Intn(s.hours), Station: r.Intn(len(l.Sees)), Read: misread(r, modelSigns(l.Code, randomText(r, l.Code)), l.Errors)}
	if len(l.Journal) == 0 {
		return x
	}
	from := l.Journal[r.Intn(len(l.Journal))]
	switch r.Intn(8) {
	case 0, 1, 2:
		x = mask.Record{Hour: from.Hour, Station: from.Station, Read: misread(r, modelSigns(l.Code, from.Text), l.Errors)}
	case 3, 4, 5:
		x.Hour = min(from.Hour+1+r.Intn(2), s.hours-1)
		x.Read = misread(r, modelSigns(l.Code, randomPart(r, from.Text)), l.Errors)
	case 6:
		x = mask.Record{Hour: from.Hour, Station: from.Station, Read: misread(r, modelSigns(l.Code, from.Text), l.Errors+2)}
	}
	return x
}

// randomStations makes a log with a code and stations alone.
func randomStations(r *rand.Rand, s scale) mask.Log {
	l := mask.Log{Code: randomCode(r, s), Errors: r.Intn(s.errors + 1)}
	for range 1 + r.Intn(s.stations) {
		l.Sees = append(l.Sees, []int{mask.Never, 0, r.Intn(s.hours), r.Intn(s.hours)}[r.Intn(4)])
	}
	return l
}

// randomSent makes a dispatch that is often one of the journal again.
func randomSent(r *rand.Rand, l mask.Log, s scale) mask.Sent {
	x := mask.Sent{Hour: r.Intn(s.hours), Station: r.Intn(len(l.Sees)), Text: randomText(r, l.Code)}
	if len(l.Journal) > 0 && r.Intn(3) == 0 {
		before := l.Journal[r.Intn(len(l.Journal))]
		x.Hour, x.Station = before.Hour, before.Station
		if r.Intn(2) == 0 {
			x.Text = slices.Clone(before.Text)
		}
	}
	return x
}

func randomLog(r *rand.Rand, s scale) mask.Log {
	l := randomStations(r, s)
	for range r.Intn(s.sent + 1) {
		l.Journal = append(l.Journal, randomSent(r, l, s))
	}
	for range r.Intn(s.records + 1) {
		if len(l.Records) > 0 && r.Intn(5) == 0 {
			l.Records = append(l.Records, l.Records[r.Intn(len(l.Records))])
			continue
		}
		l.Records = append(l.Records, randomRecord(r, l, s))
	}
	return l
}

// eachLog calls the test with random logs of any size, always the same ones.
func eachLog(many int, test func(r *rand.Rand, l mask.Log)) {
	r := rand.New(rand.NewSource(14))
	for range many {
		test(r, randomLog(r, []scale{large, dense, dense, small}[r.Intn(4)]))
	}
}

// eachSmall calls the test with random logs that are small enough to try all assignments, always the same ones.
func eachSmall(many int, test func(r *rand.Rand, l mask.Log)) {
	r := rand.New(rand.NewSource(15))
	for range many {
		test(r, randomLog(r, small))
	}
}

// cloneLog copies a log with all its lists.
func cloneLog(l mask.Log) mask.Log {
	l.Code.Letters, l.Sees = slices.Clone(l.Code.Letters), slices.Clone(l.Sees)
	l.Journal, l.Records = slices.Clone(l.Journal), slices.Clone(l.Records)
	for i := range l.Journal {
		l.Journal[i].Text = slices.Clone(l.Journal[i].Text)
	}
	return l
}
