package flash_test

import (
	"math"
	"math/rand"
	"slices"
	"strings"
	"testing"

	"glister/api"
	"glister/flash"
)

// three is the code of the chapter's examples.
func three() flash.Code { return flash.Code{Letters: []string{".", "-", ".."}} }

// badCodes are codes with their errors.
func badCodes() map[string]api.Errno {
	return map[string]api.Errno{
		"":              api.ErrArg,
		".,":            api.ErrArg,
		".,.....":       api.ErrArg,
		".,_":           api.ErrArg,
		".,- -":         api.ErrArg,
		".,-,.":         api.ErrArg,
		".,–":           api.ErrArg,
		".,\x00":        api.ErrArg,
		"a,b,c,d,e,f":   api.ErrArg,
		"a,b,c,d,e,f,g": api.ErrLimit,
		",,,,,,":        api.ErrLimit,
	}
}

// codeOf splits the flashes of a code at commas; the empty string is the code without letters.
func codeOf(list string) flash.Code {
	if list == "" {
		return flash.Code{}
	}
	return flash.Code{Letters: strings.Split(list, ",")}
}

// P2.1
func TestCheckCode(t *testing.T) {
	for list, want := range badCodes() {
		if e := flash.CheckCode(codeOf(list)); e != want {
			t.Errorf("CheckCode of %q: %v, not %v", list, e, want)
		}
	}
	for _, list := range []string{".", "-", "....", "----,.---,...-,.-.-,-.-.,--..", ".,..,...,....", ".-,-."} {
		if e := flash.CheckCode(codeOf(list)); e != api.OK {
			t.Errorf("CheckCode of %q: %v", list, e)
		}
	}
}

// P2.1
func TestSend(t *testing.T) {
	for _, x := range []struct {
		text []int
		want string
		e    api.Errno
	}{
		{[]int{1, 0}, "- .", api.OK}, {nil, "", api.OK}, {[]int{}, "", api.OK}, {[]int{2}, "..", api.OK},
		{[]int{0, 0, 0, 0, 0}, ". . . . .", api.OK}, {[]int{2, 1, 2, 0, 1}, ".. - .. . -", api.OK},
		{[]int{0, 0, 0, 0, 0, 0}, "", api.ErrLimit}, {[]int{3, 0, 0, 0, 0, 0}, "", api.ErrLimit},
		{[]int{0, 3}, "", api.ErrRange}, {[]int{-1, 0}, "", api.ErrRange}, {[]int{0, 0, 0, 0, math.MaxInt}, "", api.ErrRange},
	} {
		if s, e := flash.Send(three(), x.text); s != x.want || e != x.e {
			t.Errorf("Send of %v: %q, %v", x.text, s, e)
		}
	}
	for list, want := range badCodes() {
		if s, e := flash.Send(codeOf(list), []int{9, 9, 9, 9, 9, 9}); s != "" || e != want {
			t.Errorf("Send by %q: %q, %v", list, s, e)
		}
	}
	longest := flash.Code{Letters: []string{"...."}}
	if s, e := flash.Send(longest, []int{0, 0, 0, 0, 0}); s != ".... .... .... .... ...." || e != api.OK {
		t.Errorf("Send of the most signs: %q, %v", s, e)
	}
}

// P2.2
func TestErrorsAndExplain(t *testing.T) {
	for _, x := range []struct {
		sent, read string
		steps      []int
		errors     int
	}{
		{"- .", ".. .", []int{2, 0, 0}, 1},
		{"", "", nil, 0},
		{"- .", "- .", []int{0, 0, 0}, 0},
		{".", "", []int{1}, 1}, {"-", "", []int{1}, 1}, {"-", "..", []int{2}, 1}, {"..", "-", []int{3}, 1}, {" ", "", []int{4}, 1}, {"", " ", []int{5}, 1},
		// Of several the first one.
		{"...", ".", []int{0, 1, 1}, 2},
		{"...", "-", []int{1, 3}, 2},
		{"....", "--", []int{3, 3}, 2},
		{"--", "..", []int{1, 2}, 2},
		{"..", " ", []int{1, 1, 5}, 3},
		{"  ", " ", []int{0, 4}, 1},
		{" ", "  ", []int{0, 5}, 1},
		{"- -", "-..", []int{0, 4, 2}, 2},
		{".. ..", "- -", []int{3, 0, 3}, 2},
		// Points with a gap between them are not joined, though the gap is not read.
		{". .", "-", nil, -1},
		{"-", ".", nil, -1}, {".", "-", nil, -1}, {".", "..", nil, -1}, {"", ".", nil, -1}, {"", "-", nil, -1}, {"-", "...", nil, -1}, {"-", "--", nil, -1}, {" ", ".", nil, -1},
	} {
		want := api.OK
		if x.errors < 0 {
			x.errors, want = 0, api.ErrFalse
		}
		n, e := flash.Errors(x.sent, x.read)
		steps, f := flash.Explain(x.sent, x.read)
		if n != x.errors || e != want || !slices.Equal(steps, x.steps) || f != want {
			t.Errorf("%q read as %q: %d, %v; %v, %v", x.sent, x.read, n, e, steps, f)
		}
	}
}

// P2.2: all pairs of short strings, and random longer ones.
func TestErrorsAsTheModel(t *testing.T) {
	known := map[[2]string]int{}
	check := func(sent, read string) {
		want, f := modelFewest(known, sent, read), api.OK
		if want == tooMany {
			want, f = 0, api.ErrFalse
		}
		if n, e := flash.Errors(sent, read); n != want || e != f {
			t.Fatalf("Errors of %q, %q: %d, %v, not %d, %v", sent, read, n, e, want, f)
		}
		steps, e := flash.Explain(sent, read)
		if e != f || e == api.OK && !flash.ProveSteps(sent, read, steps, want) || e != api.OK && steps != nil {
			t.Fatalf("Explain of %q, %q: %v, %v", sent, read, steps, e)
		}
	}
	var short []string
	for _, a := range []string{"", ".", "-", " "} {
		for _, b := range []string{"", ".", "-", " "} {
			short = append(short, a+b, a+b+".", a+b+"-", a+b+" ")
		}
	}
	for _, sent := range short {
		for _, read := range short {
			check(sent, read)
		}
	}
	eachRandom(300, func(r *rand.Rand) {
		clear(known)
		check(randomSigns(r, 12), randomSigns(r, 12))
		sent := randomSigns(r, 25)
		read, _, _ := misread(r, sent, 6)
		check(sent, read)
	})
}

// P2.2: as long as strings of signs can be.
func TestLongStrings(t *testing.T) {
	points, hyphens, gaps := strings.Repeat(".", 40), strings.Repeat("-", 20), strings.Repeat(" ", 40)
	for _, x := range []struct {
		sent, read string
		want       int
	}{{points, hyphens, 20}, {hyphens, points, 20}, {points, "", 40}, {"", gaps, 40}, {gaps, "", 40}, {points, gaps, 80}, {points, points, 0}, {gaps, gaps, 0}} {
		if n, e := flash.Errors(x.sent, x.read); n != x.want || e != api.OK {
			t.Errorf("Errors of %q, %q: %d, %v", x.sent, x.read, n, e)
		}
		if steps, e := flash.Explain(x.sent, x.read); e != api.OK || !flash.ProveSteps(x.sent, x.read, steps, x.want) {
			t.Errorf("Explain of %q, %q: %v, %v", x.sent, x.read, steps, e)
		}
	}
}

// P2.2
func TestErrorsOfStrings(t *testing.T) {
	long := strings.Repeat(".", 41)
	for _, x := range []struct {
		sent, read string
		want       api.Errno
	}{
		{long, ".", api.ErrLimit}, {".", long, api.ErrLimit}, {"?", long, api.ErrLimit}, {long, "?", api.ErrLimit}, {long + "?", "", api.ErrLimit},
		{"?", ".", api.ErrForm}, {".", "?", api.ErrForm}, {".\t", ".", api.ErrForm}, {".", "_", api.ErrForm}, {"\x00", "", api.ErrForm}, {"", "\xff", api.ErrForm}, {"–", "", api.ErrForm}, {".", "-,", api.ErrForm},
		{".", "-", api.ErrFalse},
	} {
		if n, e := flash.Errors(x.sent, x.read); n != 0 || e != x.want {
			t.Errorf("Errors of %q, %q: %d, %v", x.sent, x.read, n, e)
		}
		if steps, e := flash.Explain(x.sent, x.read); steps != nil || e != x.want {
			t.Errorf("Explain of %q, %q: %v, %v", x.sent, x.read, steps, e)
		}
	}
}

// P2.3
func TestProveSteps(t *testing.T) {
	long := strings.Repeat(".", 41)
	for _, x := range []struct {
		sent, read string
		steps      []int
		errors     int
		want       bool
	}{
		{"- .", ".. .", []int{2, 0, 0}, 1, true}, {"- .", ".. .", []int{2, 0, 0}, 7, true}, {"- .", ".. .", []int{2, 0, 0}, math.MaxInt, true},
		{"- .", ".. .", []int{2, 0, 0}, 0, false}, {"- .", ".. .", []int{2, 0, 0}, -1, false}, {"- .", ".. .", []int{2, 0, 0}, math.MinInt, false},
		// Not through all signs, not all of what is read, or beyond it.
		{"- .", ".. .", []int{2, 0}, 1, false}, {"- .", ".. .", []int{2, 0, 0, 0}, 1, false}, {"- .", "..", []int{2, 4}, 9, false}, {"- .", ".. ", []int{2, 0, 0}, 9, false}, {"-", ".. ", []int{2}, 9, false}, {"- ", "..", []int{2}, 9, false},
		{"", "", nil, 0, true}, {"", "", []int{}, 0, true}, {"", "", nil, -1, false}, {"", "", []int{0}, 9, false}, {"", "", []int{1}, 9, false}, {"", "", []int{4}, 9, false}, {"", "", []int{5}, 9, false},
		{"", " ", []int{5}, 1, true}, {" ", " ", []int{0}, 0, true}, {" ", " ", []int{4, 5}, 2, true}, {" ", " ", []int{5, 4}, 2, true}, {" ", " ", []int{4, 5}, 1, false},
		{".", "", []int{1}, 1, true}, {"-", "", []int{1}, 1, true}, {" ", "", []int{1}, 9, false}, {" ", "", []int{4}, 1, true}, {".", "", []int{4}, 9, false}, {"-", "", []int{4}, 9, false},
		{"-", "..", []int{2}, 1, true}, {".", "..", []int{2}, 9, false}, {" ", "..", []int{2}, 9, false}, {"-", "--", []int{2}, 9, false},
		{"..", "-", []int{3}, 1, true}, {".", "-", []int{3}, 9, false}, {"--", "-", []int{3}, 9, false}, {". .", "-", []int{3}, 9, false}, {". .", "-", []int{4, 3}, 9, false}, {". .", " -", []int{3, 0}, 9, false}, {".-", "-", []int{3}, 9, false},
		{".", "-", []int{0}, 9, false}, {".", ".", []int{0}, 0, true}, {"-", "-", []int{0}, 0, true},
		// Not the fewest errors, but steps that explain.
		{"-.", "..", []int{2, 1}, 2, true}, {"...", "-", []int{3, 1}, 2, true}, {"...", "-", []int{1, 3}, 2, true},
		{".", ".", []int{-1}, 9, false}, {".", ".", []int{6}, 9, false}, {".", ".", []int{math.MaxInt}, 9, false}, {".", ".", []int{math.MinInt}, 9, false}, {".", ".", []int{0, 6}, 9, false},
		{long, long, slices.Repeat([]int{0}, 41), 99, false}, {long[1:], long[1:], slices.Repeat([]int{0}, 40), 0, true}, {"?", "?", []int{0}, 9, false}, {"?", "", []int{1}, 9, false}, {"", "?", []int{5}, 9, false}, {"", long, nil, 9, false},
	} {
		if ok := flash.ProveSteps(x.sent, x.read, x.steps, x.errors); ok != x.want {
			t.Errorf("ProveSteps of %q, %q, %v, %d: %v", x.sent, x.read, x.steps, x.errors, ok)
		}
	}
}

// P2.4
func TestTextsExamples(t *testing.T) {
	for _, x := range []struct {
		read            string
		errors, letters int
		want            [][]int
	}{
		{"..", 1, 2, [][]int{{1}, {2}, {0, 0}}},
		{"..", 0, 2, [][]int{{2}}},
		{"..", 1, 1, [][]int{{1}, {2}}},
		{"..", 1, 0, nil},
		// The text without letters has no signs: it can only have been read as gaps.
		{"", 0, 5, [][]int{nil}}, {"", 0, 0, [][]int{nil}}, {" ", 1, 0, [][]int{nil}}, {" ", 0, 5, nil}, {"   ", 3, 0, [][]int{nil}}, {"    ", 3, 0, nil}, {".", 3, 0, nil},
		{"", 1, 1, [][]int{nil, {0}, {1}}},
		{"", 2, 2, [][]int{nil, {0}, {1}, {2}}},
		{"- .", 0, 5, [][]int{{1, 0}}},
		{". . . . .", 0, 5, [][]int{{0, 0, 0, 0, 0}}}, {". . . . .", 0, 4, nil}, {". . . . . .", 0, 5, nil},
		{" .", 0, 5, nil}, {" .", 1, 5, [][]int{{0}, {0, 0}, {1, 0}}}, {" .", 1, 1, [][]int{{0}}}, {".  .", 1, 2, [][]int{{0, 0}}},
		{"....", 0, 5, nil},
	} {
		if l, e := flash.Texts(three(), x.read, x.errors, x.letters); !same(l, x.want) || e != api.OK {
			t.Errorf("Texts of %q, %d, %d: %v, %v", x.read, x.errors, x.letters, l, e)
		}
	}
}

// P2.4
func TestTextsAsTheModel(t *testing.T) {
	found := 0
	eachRandom(500, func(r *rand.Rand) {
		c := randomCode(r, 4)
		read, errors, letters := randomSigns(r, 8), r.Intn(4), r.Intn(5)
		if r.Intn(4) > 0 {
			read, _, _ = misread(r, signsOf(c, randomText(r, len(c.Letters), 3)), 2)
		}
		l, e := flash.Texts(c, read, errors, letters)
		if want := modelTexts(c, read, errors, letters); !same(l, want) || e != api.OK {
			t.Fatalf("Texts by %q of %q, %d, %d: %v, %v, not %v", c.Letters, read, errors, letters, l, e, want)
		}
		found += len(l)
	})
	if found < 500 {
		t.Errorf("only %d texts", found)
	}
}

// P2.4: with all letters and as many errors and letters as there can be.
func TestMostTexts(t *testing.T) {
	c := flash.Code{Letters: []string{".", "-", "..", "--", ".-", "-."}}
	for _, read := range []string{". . . . .", "- .- . -"} {
		l, e := flash.Texts(c, read, 3, 5)
		if want := modelTexts(c, read, 3, 5); len(want) < 100 || !same(l, want) || e != api.OK {
			t.Errorf("Texts of %q: %d, %v, not %d", read, len(l), e, len(want))
		}
	}
}

// P2.4
func TestErrorsOfTexts(t *testing.T) {
	long := strings.Repeat(" ", 41)
	for _, x := range []struct {
		read            string
		errors, letters int
		want            api.Errno
	}{
		{"", 4, 0, api.ErrRange}, {"", -1, 0, api.ErrRange}, {"", 0, 6, api.ErrRange}, {"", 0, -1, api.ErrRange}, {"", math.MaxInt, 0, api.ErrRange}, {"", 0, math.MinInt, api.ErrRange},
		{long, 4, 6, api.ErrLimit}, {long[1:] + "x", 4, 6, api.ErrLimit}, {"x", 4, 6, api.ErrForm}, {".x", 0, 0, api.ErrForm}, {long[1:], 3, 5, api.OK}, {"", 3, 5, api.OK}, {"", 0, 0, api.OK},
	} {
		if l, e := flash.Texts(three(), x.read, x.errors, x.letters); e != x.want || e != api.OK && l != nil {
			t.Errorf("Texts of %q, %d, %d: %v, %v", x.read, x.errors, x.letters, l, e)
		}
	}
	for list, want := range badCodes() {
		if l, e := flash.Texts(codeOf(list), long+"x", 4, 6); l != nil || e != want {
			t.Errorf("Texts by %q: %v, %v", list, l, e)
		}
	}
}

// P2.5
func TestRepeat(t *testing.T) {
	full := [][]int{{0, 0, 0, 0, 0}, {0, 0, 0, 0, 5}}
	for _, x := range []struct {
		texts      [][]int
		from, many int
	}{
		{[][]int{{1}, {2}, {0, 0}}, 0, 1},
		{[][]int{{0, 1, 2}, {0, 2, 2}, {0, 1}}, 1, 2},
		{[][]int{{0, 1, 2}}, 0, 0}, {[][]int{nil}, 0, 0}, {[][]int{{}, {0}}, 0, 1},
		{full, 4, 1},
		{[][]int{{0}, {0, 0}}, 1, 1}, {[][]int{{0, 0, 0, 0}, {0, 0, 0, 0, 0}}, 4, 1},
		{[][]int{{0}, {0, 0}, {0, 0, 0}}, 1, 2},
		{[][]int{nil, {0}, {0, 0}, {0, 0, 0}, {0, 0, 0, 0}, {0, 0, 0, 0, 0}}, 0, 5},
		{[][]int{{0, 0}, {0, 1}, {1, 0}, {1, 1}}, 0, 2},
		{[][]int{{5, 0, 1}, {4, 0, 2}, {3, 1, 0}}, 0, 1}, {[][]int{{3, 0, 1}, {4, 0, 2}, {3, 1, 0}}, 2, 1},
	} {
		if from, many, e := flash.Repeat(x.texts); from != x.from || many != x.many || e != api.OK {
			t.Errorf("Repeat of %v: %d, %d, %v", x.texts, from, many, e)
		}
	}
}

// P2.5
func TestErrorsOfRepeat(t *testing.T) {
	many := func(n int) [][]int {
		var texts [][]int
		eachText(api.MaxFlashLetters, 3, func(text []int) { texts = append(texts, text) })
		return texts[:n]
	}
	six := []int{0, 0, 0, 0, 0, 0}
	for _, x := range []struct {
		what  string
		texts [][]int
		want  api.Errno
	}{
		{"64", many(64), api.OK}, {"65", many(65), api.ErrLimit}, {"none 65 times", make([][]int, 65), api.ErrLimit},
		{"six letters", [][]int{nil, six}, api.ErrLimit}, {"six letters, and a bad one", [][]int{{6}, six}, api.ErrLimit},
		{"nil", nil, api.ErrRange}, {"no text", [][]int{}, api.ErrRange},
		{"letter 6", [][]int{{0}, {5, 6}}, api.ErrRange}, {"letter -1", [][]int{{0}, {-1}}, api.ErrRange}, {"a text of a bad letter only", [][]int{{math.MaxInt}}, api.ErrRange}, {"bad ones twice", [][]int{{6}, {6}}, api.ErrRange},
		{"two equal", [][]int{{0, 1}, {1}, {0, 1}}, api.ErrTwice}, {"two without letters", [][]int{nil, {}}, api.ErrTwice},
	} {
		from, many, e := flash.Repeat(x.texts)
		if e != x.want || e != api.OK && (from != 0 || many != 0) {
			t.Errorf("Repeat of %s: %d, %d, %v", x.what, from, many, e)
		}
	}
}

// R4: arguments stay as they are, and no two texts of a result share memory.
func TestMemory(t *testing.T) {
	c, texts, steps := three(), [][]int{{0, 1, 2}, {0, 2, 2}, {0, 1}}, []int{2, 0, 0}
	flash.Send(c, texts[0])
	flash.Repeat(texts)
	flash.ProveSteps("- .", ".. .", steps, 1)
	list, _ := flash.Texts(c, "..", 2, 3)
	want, _ := flash.Texts(three(), "..", 2, 3)
	for i := range list {
		full := list[i][:cap(list[i])]
		for j := range full {
			full[j] = 9
		}
		for j := i + 1; j < len(list); j++ {
			if !slices.Equal(list[j], want[j]) {
				t.Fatalf("the text %d changed with the text %d", j, i)
			}
		}
	}
	if !slices.Equal(c.Letters, three().Letters) || !same(texts, [][]int{{0, 1, 2}, {0, 2, 2}, {0, 1}}) || !slices.Equal(steps, []int{2, 0, 0}) {
		t.Errorf("arguments changed: %v, %v, %v", c, texts, steps)
	}
	if again, _ := flash.Texts(c, "..", 2, 3); !same(again, want) {
		t.Errorf("another result the second time: %v, not %v", again, want)
	}
}

// P1 and R2: any arguments, and zero values with each error.
func TestAnyArguments(t *testing.T) {
	eachRandom(3000, func(r *rand.Rand) {
		number := func() int { return []int{math.MinInt, -1, 0, 1, 2, 5, 6, math.MaxInt}[r.Intn(8)] }
		numbers := func() []int {
			list := make([]int, r.Intn(8))
			for i := range list {
				list[i] = number()
			}
			return list
		}
		word := func() string {
			return strings.Repeat([]string{"", ".", "-", " ", "..-", "\xff", "é"}[r.Intn(7)], r.Intn(44))
		}
		var c flash.Code
		for range r.Intn(4) {
			c.Letters = append(c.Letters, []string{".", "-", "..", "", "x"}[r.Intn(5)])
		}
		sent, read := word(), word()
		texts := [][]int{numbers(), numbers(), numbers()}[:r.Intn(4)]
		signs, e1 := flash.Send(c, numbers())
		errors, e2 := flash.Errors(sent, read)
		steps, e3 := flash.Explain(sent, read)
		list, e4 := flash.Texts(c, read, number(), number())
		from, many, e5 := flash.Repeat(texts)
		flash.ProveSteps(sent, read, numbers(), number())
		if e1 != api.OK && signs != "" || e2 != api.OK && errors != 0 || e3 != api.OK && steps != nil || e4 != api.OK && list != nil || e5 != api.OK && (from != 0 || many != 0) {
			t.Fatalf("results with errors: %q, %v; %d, %v; %v, %v; %v, %v; %d, %d, %v", signs, e1, errors, e2, steps, e3, list, e4, from, many, e5)
		}
		if e := flash.CheckCode(c); e != api.OK && (e1 != e || e4 != e) {
			t.Fatalf("the code has the error %v, the calls have %v, %v", e, e1, e4)
		}
	})
}
