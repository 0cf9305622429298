package rota_test

import (
	"math"
	"math/rand"
	"reflect"
	"slices"
	"strings"
	"testing"

	"glister/api"
	"glister/rota"
)

func numbers(list ...int) []int { return list }

func cases(list ...[]int) [][]int { return list }

func span(lo, hi int) rota.Range { return rota.Range{Lo: lo, Hi: hi} }

func ranges(ends ...int) []rota.Range {
	var list []rota.Range
	for i := 0; i < len(ends); i += 2 {
		list = append(list, span(ends[i], ends[i+1]))
	}
	return list
}

// person is able in the watches of the x.
func person(able string, rest, most int) rota.Person {
	x := rota.Person{Rest: rest, Most: most}
	for _, c := range able {
		x.Able = append(x.Able, c == 'x')
	}
	return x
}

func post(need []int, people ...rota.Person) rota.Post {
	return rota.Post{Need: need, People: people}
}

// duty has a word with the people of each watch; a point is for nobody.
func duty(words string) [][]int {
	var list [][]int
	for _, word := range strings.Fields(words) {
		var people []int
		for _, c := range strings.Trim(word, ".") {
			people = append(people, int(c-'0'))
		}
		list = append(list, people)
	}
	return list
}

func sameRota(r, other [][]int) bool { return slices.EqualFunc(r, other, slices.Equal) }

// example is the post of the chapter.
func example() rota.Post {
	p := post(numbers(1, 1, 1, 1), person("xxxx", 1, 2), person("xxxx", 1, 2), person(".xx.", 0, 4))
	p.Cases = cases(numbers(2, rota.Never, rota.Never))
	return p
}

// further is the example with the further case.
func further() rota.Post {
	return changed(func(p *rota.Post) { p.Cases = append(p.Cases, numbers(rota.Never, 3, rota.Never)) })
}

// changed is the example after a change.
func changed(change func(p *rota.Post)) rota.Post {
	p := example()
	change(&p)
	return p
}

// inCases is the post with these cases alone.
func inCases(p rota.Post, list ...[]int) rota.Post {
	p.Cases = list
	return p
}

// with is the example with these cases alone.
func with(list ...[]int) rota.Post { return inCases(example(), list...) }

// free has people who are always able, need no rest, and can stand all watches.
func free(many int, need ...int) rota.Post {
	return post(need, slices.Repeat([]rota.Person{person(strings.Repeat("x", len(need)), 0, 5)}, many)...)
}

// full has as much of everything as a post can have.
func full() rota.Post {
	p := free(4, 2, 2, 2, 2, 2)
	return inCases(p, numbers(4, 4, rota.Never, rota.Never), numbers(3, rota.Never, 4, rota.Never), healthy(p), numbers(rota.Never, 0, 0, rota.Never))
}

// mirror is the one of the chapter.
func mirror() rota.Mirror {
	return rota.Mirror{Floor: 60, Loss: ranges(10, 20, 5, 25, 0, 10, 10, 15)}
}

func loses(floor int, ends ...int) rota.Mirror {
	return rota.Mirror{Floor: floor, Loss: ranges(ends...)}
}

// input has the arguments of all calls.
type input struct {
	post     rota.Post
	rota     [][]int
	mirror   rota.Mirror
	polished []int
}

// all has the results of each call that has an error.
func (in input) all() []any {
	e0 := rota.CheckPost(in.post)
	rules, e1 := rota.Rules(in.post, in.rota)
	fails, e2 := rota.Fails(in.post, in.rota)
	best, duties, e3 := rota.Best(in.post)
	enough, e4 := rota.Enough(in.post)
	bright, e5 := rota.Bright(in.mirror, in.polished)
	polish, e6 := rota.Polish(in.mirror)
	return []any{e0, rules, e1, fails, e2, best, duties, e3, enough, e4, bright, e5, polish, e6}
}

// errorsOf picks the errors from the results of all: CheckPost, Rules, Fails, Best, Enough, Bright, Polish.
func errorsOf(results []any) []api.Errno {
	var list []api.Errno
	for _, x := range results {
		if e, ok := x.(api.Errno); ok {
			list = append(list, e)
		}
	}
	return list
}

// failed checks that a call with an error has no other result.
func failed(t *testing.T, results []any) {
	t.Helper()
	start := 0
	for i, x := range results {
		e, ok := x.(api.Errno)
		if !ok {
			continue
		}
		if e != api.OK && slices.ContainsFunc(results[start:i], isSome) {
			t.Errorf("%v with %v in %v", results[start:i], e, results)
		}
		start = i + 1
	}
}

// isSome tells whether a result is not the zero value.
func isSome(x any) bool { return !reflect.ValueOf(x).IsZero() }

// P10.1: what a post can have.
func TestCheckPost(t *testing.T) {
	low, high := math.MinInt, math.MaxInt
	needs := func(list ...int) rota.Post { return post(list, person(strings.Repeat("x", len(list)), 0, 5)) }
	last := func(x rota.Person) rota.Post { return changed(func(p *rota.Post) { p.People[2] = x }) }
	people := func(many int) rota.Post { return free(many, 1, 1) }
	wrong := rota.Post{Need: numbers(9), People: make([]rota.Person, 1), Cases: cases(numbers(9, 9))}
	more := func(change func(p *rota.Post)) rota.Post {
		p := clonePost(wrong)
		change(&p)
		return p
	}
	for _, x := range []struct {
		what string
		p    rota.Post
		want api.Errno
	}{
		{"the example", example(), api.OK}, {"a full post", full(), api.OK}, {"nothing", rota.Post{}, api.ErrArg}, {"nothing valid", wrong, api.ErrArg},
		{"no watches", post(nil, person("", 0, 5)), api.ErrArg}, {"one watch", needs(1), api.OK}, {"five watches", needs(1, 1, 1, 1, 1), api.OK}, {"six watches", needs(1, 1, 1, 1, 1, 1), api.ErrLimit}, {"six wrong watches", more(func(p *rota.Post) { p.Need = make([]int, 6) }), api.ErrLimit},
		{"none needed", needs(0), api.OK}, {"two needed", needs(0, 2), api.OK}, {"three needed", needs(2, 3), api.ErrArg}, {"three needed at first", needs(3, 2), api.ErrArg}, {"below 0 needed", needs(1, -1), api.ErrArg}, {"the most needed", needs(high), api.ErrArg}, {"the least needed", needs(low), api.ErrArg},
		{"nobody", post(numbers(1)), api.ErrArg}, {"one person", people(1), api.OK}, {"four people", people(4), api.OK}, {"five people", people(5), api.ErrLimit}, {"five wrong people", more(func(p *rota.Post) { p.People = make([]rota.Person, 5) }), api.ErrLimit},
		{"able in fewer watches", last(person("xxx", 0, 4)), api.ErrArg}, {"able in more watches", last(person("xxxxx", 0, 4)), api.ErrArg}, {"able in many more watches", last(person("xxxxxxx", 0, 4)), api.ErrArg}, {"able in no watches", last(person("", 0, 4)), api.ErrArg}, {"never able", last(person("....", 0, 4)), api.OK}, {"the first one able in fewer watches", changed(func(p *rota.Post) { p.People[0].Able = p.People[0].Able[1:] }), api.ErrArg},
		{"no rest", last(person("xxxx", 0, 4)), api.OK}, {"a rest of five", last(person("xxxx", 5, 4)), api.OK}, {"a rest of six", last(person("xxxx", 6, 4)), api.ErrArg}, {"a rest below 0", last(person("xxxx", -1, 4)), api.ErrArg}, {"an endless rest", last(person("xxxx", high, 4)), api.ErrArg}, {"the smallest rest", last(person("xxxx", low, 4)), api.ErrArg},
		{"at most none", last(person("xxxx", 0, 0)), api.OK}, {"at most five", last(person("xxxx", 0, 5)), api.OK}, {"at most six", last(person("xxxx", 0, 6)), api.ErrArg}, {"at most fewer than none", last(person("xxxx", 0, -1)), api.ErrArg}, {"endless watches", last(person("xxxx", 0, high)), api.ErrArg}, {"the smallest number as Most", last(person("xxxx", 0, low)), api.ErrArg},
		{"no cases", with(), api.OK}, {"four cases", with(slices.Repeat(cases(healthy(example())), 4)...), api.OK}, {"five cases", with(slices.Repeat(cases(healthy(example())), 5)...), api.ErrLimit}, {"five wrong cases", more(func(p *rota.Post) { p.Cases = make([][]int, 5) }), api.ErrLimit},
		{"an empty case", with(nil), api.ErrArg}, {"a case for fewer people", with(numbers(0, 0)), api.ErrArg}, {"a case for more people", with(numbers(0, 0, 0, 0)), api.ErrArg}, {"a last case for many more people", with(healthy(example()), numbers(0, 0, 0, 0, 0)), api.ErrArg},
		{"all ill at first", with(numbers(0, 0, 0)), api.OK}, {"all ill at last", with(numbers(3, 3, 3)), api.OK}, {"ill after the last watch", with(numbers(0, 4, 0)), api.ErrArg}, {"ill before Never", with(numbers(0, 0, -2)), api.ErrArg}, {"ill at the end of time", with(numbers(high, 0, 0)), api.ErrArg}, {"ill at the beginning of time", with(healthy(example()), numbers(0, 0, low)), api.ErrArg},
	} {
		if e := rota.CheckPost(x.p); e != x.want {
			t.Errorf("CheckPost of %s: %v, not %v", x.what, e, x.want)
		}
	}
}

// P10.1
func TestRules(t *testing.T) {
	rest := func(watches int) rota.Post {
		return post(numbers(0, 0, 0, 0, 0), person("xxxxx", watches, 5), person("xxxxx", 0, 5))
	}
	most := func(watches int) rota.Post { return post(numbers(0, 0, 0, 0, 0), person("xxxxx", 0, watches)) }
	for _, x := range []struct {
		what string
		p    rota.Post
		r    string
		want bool
	}{
		{"the example", example(), "0 1 2 1", true}, {"no rest", example(), "0 0 2 1", false}, {"a person who is not able", example(), "2 1 2 1", false}, {"a person who is not able at last", example(), "0 1 2 12", false}, {"the rest of the other one", example(), "0 1 1 0", false}, {"no rest for a person who needs none", example(), "0 2 2 1", true}, {"everybody twice", example(), "01 2 012 .", true}, {"nobody", example(), ". . . .", true}, {"enough people or not", example(), "0 . 0 .", true},
		{"no rest at all", rest(0), "0 0 0 0 0", true}, {"a rest of one", rest(1), "0 1 0 1 0", true}, {"a rest of one, the last time not", rest(1), "0 1 0 . 0", true}, {"one of two", rest(2), "0 1 0 1 1", false}, {"two of two", rest(2), "0 1 1 0 1", true}, {"three of two", rest(2), "0 1 1 1 0", true}, {"two of three", rest(3), "1 0 1 1 0", false}, {"three of three", rest(3), "0 . . . 0", true}, {"three of four", rest(4), "0 1 1 1 0", false}, {"once, with a rest of five", rest(5), "1 1 1 1 0", true}, {"once at first, with a rest of five", rest(5), "0 1 1 1 1", true}, {"twice, with a rest of five", rest(5), "0 . . . 0", false}, {"no rest after a rest", rest(1), "0 . 0 0 .", false},
		{"none of none", most(0), ". . . . .", true}, {"one of none", most(0), ". . . . 0", false}, {"one of one", most(1), ". . 0 . .", true}, {"two of one", most(1), "0 . 0 . .", false}, {"four of four", most(4), "0 0 . 0 0", true}, {"five of four", most(4), "0 0 0 0 0", false}, {"five of five", most(5), "0 0 0 0 0", true},
		{"the rules of the second one", post(numbers(0, 0), person("xx", 0, 2), person("xx", 0, 1)), "01 01", false}, {"one watch", free(4, 2), "0123", true},
	} {
		if ok, e := rota.Rules(x.p, duty(x.r)); ok != x.want || e != api.OK {
			t.Errorf("Rules with %s: %v, %v", x.what, ok, e)
		}
	}
}

// P10.2
func TestFails(t *testing.T) {
	never := rota.Never
	two := inCases(free(3, 2, 0, 2), numbers(0, never, never), numbers(never, 1, never), numbers(2, never, 2), numbers(0, 0, 0))
	for _, x := range []struct {
		what string
		p    rota.Post
		r    string
		want []int
	}{
		{"the example", example(), "0 1 2 1", numbers(never, never)}, {"a person who is ill", example(), "0 1 0 1", numbers(2, never)}, {"a person who is ill later", example(), "0 1 2 0", numbers(3, never)}, {"a person who is not yet ill", example(), "1 0 2 1", numbers(never, never)}, {"a rota that breaks the rules", example(), "2 2 2 2", numbers(never, never)},
		{"nobody", example(), ". . . .", numbers(0, 0)}, {"nobody in the second watch", example(), "0 . 0 .", numbers(1, 1)}, {"nobody at last", example(), "0 1 0 .", numbers(2, 3)}, {"the person and another one", example(), "0 1 02 01", numbers(never, never)}, {"two cases", further(), "0 1 2 1", numbers(never, 3, never)}, {"both of them", further(), "0 1 2 01", numbers(never, never, never)}, {"no cases", with(), "0 1 0 1", numbers(never)},
		{"two of two", two, "12 . 12", numbers(never, 2, 2, 0, never)}, {"all", two, "012 . 012", numbers(never, never, 2, 0, never)}, {"two of two, others later", two, "01 . 12", numbers(0, 2, 2, 0, never)}, {"one of two", two, "01 . 1", numbers(0, 2, 2, 0, 2)}, {"more than are needed", two, "012 012 1", numbers(2, 2, 2, 0, 2)}, {"none needed", free(1, 0), ".", numbers(never)}, {"one needed", free(1, 1), ".", numbers(0)},
	} {
		if list, e := rota.Fails(x.p, duty(x.r)); !slices.Equal(list, x.want) || e != api.OK {
			t.Errorf("Fails with %s: %v, %v, not %v", x.what, list, e, x.want)
		}
	}
}

// P10.1 to P10.3: lists that are no rota of the post.
func TestRotas(t *testing.T) {
	free := free(4, 0, 0, 0)
	for _, x := range []struct {
		what string
		r    [][]int
		want api.Errno
	}{
		{"nobody", duty(". . ."), api.OK}, {"empty lists", cases(numbers(), numbers(), numbers()), api.OK}, {"everybody", duty("0123 0123 0123"), api.OK}, {"some", duty("03 13 0"), api.OK},
		{"nothing", nil, api.ErrRange}, {"fewer watches", duty("0 1"), api.ErrRange}, {"more watches", duty("0 1 2 3"), api.ErrRange}, {"many more watches", duty("0 1 2 3 0 1 2"), api.ErrRange},
		{"a person twice", duty("0 11 2"), api.ErrRange}, {"falling people", duty("10 1 2"), api.ErrRange}, {"people who fall at last", duty("0 1 021"), api.ErrRange}, {"one person too many", duty("0 1 01234"), api.ErrRange}, {"a person that does not exist", duty("4 1 2"), api.ErrRange}, {"a person below 0", cases(numbers(0), numbers(-1), numbers(2)), api.ErrRange}, {"the greatest number", cases(numbers(0), numbers(1), numbers(math.MaxInt)), api.ErrRange}, {"the smallest number", cases(numbers(math.MinInt), numbers(1), numbers(2)), api.ErrRange},
	} {
		_, e := rota.Rules(free, x.r)
		list, f := rota.Fails(free, x.r)
		if e != x.want || f != x.want || (list == nil) == (f == api.OK) || rota.ProveRota(free, x.r, 99) != (x.want == api.OK) {
			t.Errorf("Rules, Fails, ProveRota with %s: %v; %v, %v", x.what, e, list, f)
		}
	}
}

// bests has posts, with their best rotas, and their smallest sets of people.
func bests() []bestOf {
	never := rota.Never
	first, second, third := numbers(0, never, never), numbers(never, 0, never), numbers(never, never, 0)
	once := post(numbers(1, 1), slices.Repeat([]rota.Person{person("xx", 0, 1)}, 3)...)
	return []bestOf{
		{"the example", example(), "0 1 2 1", numbers(1, 2)}, {"its further case", further(), "0 1 2 01", numbers(0, 1, 2)}, {"the example without cases", with(), "0 1 0 1", numbers(0, 1)}, {"a person who is ill from the start", with(first), "1 2 2 1", numbers(1, 2)},
		{"one watch", free(1, 1), "0", numbers(0)}, {"nobody needed", free(3, 0, 0), ". .", nil}, {"two people needed", free(2, 2, 0, 2), "01 . 01", numbers(0, 1)}, {"two of three", free(3, 2, 1), "01 0", numbers(0, 1)}, {"the first one of four", free(4, 1, 1, 1), "0 0 0", numbers(0)},
		{"a person who is ill at first", inCases(free(3, 1, 1), first), "1 1", numbers(1)}, {"a person who becomes ill", inCases(free(3, 1, 1), numbers(1, never, never)), "0 1", numbers(1)}, {"one of two who is ill", inCases(free(3, 1, 1), first, second), "2 2", numbers(2)}, {"one of three who is ill", inCases(free(3, 1, 1), first, second, third), "01 01", numbers(0, 1)}, {"two of three who are ill", inCases(free(3, 1), numbers(0, 0, never), numbers(never, 0, 0), numbers(0, never, 0)), "012", numbers(0, 1, 2)},
		{"two needed of four", inCases(free(4, 2), numbers(0, never, never, never), numbers(never, 0, never, never)), "23", numbers(2, 3)}, {"two needed of three", inCases(free(3, 2), first, second), "012", numbers(0, 1, 2)}, {"everybody ill when nobody is needed", inCases(free(2, 1, 0), numbers(1, 1)), "0 .", numbers(0)},
		{"a short list before a long one", inCases(once, first, second), "2 01", numbers(0, 1, 2)}, {"a long list before a short one", inCases(post(numbers(1, 1), person("x.", 0, 5), person("x.", 0, 5), person("xx", 0, 1)), first, second), "01 2", numbers(0, 1, 2)}, {"the first ones of once", once, "0 1", numbers(0, 1)}, {"fewer duties instead of the first ones", inCases(free(3, 1, 1), first, numbers(never, 1, never)), "1 2", numbers(2)},
		{"a rest of one", post(numbers(1, 1, 1, 1, 1), slices.Repeat([]rota.Person{person("xxxxx", 1, 5)}, 3)...), "0 1 0 1 0", numbers(0, 1)}, {"a rest of two", post(numbers(1, 1, 1, 1, 1), slices.Repeat([]rota.Person{person("xxxxx", 2, 5)}, 4)...), "0 1 2 0 1", numbers(0, 1, 2)}, {"at most two", post(numbers(1, 1, 1, 1, 1), slices.Repeat([]rota.Person{person("xxxxx", 0, 2)}, 4)...), "0 0 1 1 2", numbers(0, 1, 2)},
		{"kept for later", post(numbers(1, 1, 1), person("xxx", 0, 1), person("x..", 0, 1), person(".x.", 0, 1)), "1 2 0", numbers(0, 1, 2)}, {"the first of several sets", post(numbers(1, 1, 1), person("x..", 0, 5), person(".xx", 0, 5), person("xx.", 0, 5), person("..x", 0, 5)), "0 1 1", numbers(0, 1)}, {"a set without those of the best rota", post(numbers(1, 1), person("x.", 0, 5), person("xx", 1, 2), person("xx", 0, 5)), "0 1", numbers(2)},
		{"a full post", full(), "03 03 03 013 0123", numbers(0, 1, 2, 3)},
	}
}

type bestOf struct {
	what   string
	p      rota.Post
	r      string
	people []int
}

// P10.3, P10.4
func TestBestAndEnough(t *testing.T) {
	for _, x := range bests() {
		want := duty(x.r)
		if r, duties, e := rota.Best(x.p); !sameRota(r, want) || duties != dutiesOf(want) || e != api.OK {
			t.Errorf("Best with %s: %v, %v, %v, not %v", x.what, r, duties, e, want)
		}
		if people, e := rota.Enough(x.p); !slices.Equal(people, x.people) || e != api.OK {
			t.Errorf("Enough with %s: %v, %v, not %v", x.what, people, e, x.people)
		}
	}
	never := rota.Never
	for _, x := range []struct {
		what string
		p    rota.Post
	}{
		{"two who need a rest", inCases(post(numbers(1, 1, 1, 1), person("xxxx", 1, 4), person("xxxx", 1, 4)), numbers(1, never))}, {"a case in which both are ill", with(numbers(2, never, never), numbers(3, 3, never))}, {"too few people", free(1, 2)}, {"nobody who is able", post(numbers(1, 1), person("x.", 0, 5), person("x.", 0, 5))}, {"too few watches that they stand", post(numbers(1, 1, 1), person("xxx", 0, 1), person("xxx", 0, 1))}, {"too much rest", post(numbers(1, 0, 1), person("xxx", 2, 5))},
	} {
		r, duties, e := rota.Best(x.p)
		people, f := rota.Enough(x.p)
		if r != nil || duties != 0 || e != api.ErrStuck || people != nil || f != api.ErrStuck {
			t.Errorf("Best, Enough with %s: %v, %v, %v; %v, %v", x.what, r, duties, e, people, f)
		}
	}
}

// P10.3
func TestProveRota(t *testing.T) {
	for _, x := range []struct {
		what   string
		p      rota.Post
		r      string
		duties int
		want   bool
	}{
		{"the example", example(), "0 1 2 1", 4, true}, {"more duties", example(), "0 1 2 1", 5, true}, {"any duties", example(), "0 1 2 1", math.MaxInt, true}, {"fewer duties", example(), "0 1 2 1", 3, false}, {"no duties", example(), "0 1 2 1", 0, false}, {"duties below 0", example(), "0 1 2 1", math.MinInt, false}, {"another safe rota", example(), "0 2 2 1", 4, true}, {"a safe rota with more duties", example(), "01 2 012 .", 99, false}, {"more people than are needed", example(), "01 2 2 01", 6, true}, {"more people, and fewer duties", example(), "01 2 2 01", 5, false},
		{"no rest", example(), "0 0 2 1", 4, false}, {"a case in which it fails", example(), "0 1 0 1", 4, false}, {"nobody ill, and it fails", with(), "0 1 . 1", 4, false}, {"no cases", with(), "0 1 0 1", 4, true}, {"the further case", further(), "0 1 2 1", 4, false}, {"the further case, and both", further(), "0 1 2 01", 5, true}, {"fewer watches", example(), "0 1 2", 4, false},
		{"nobody needed", free(2, 0, 0), ". .", 0, true}, {"nobody needed, and duties below 0", free(2, 0, 0), ". .", -1, false}, {"no post", rota.Post{}, "", 0, false}, {"six watches", free(2, 0, 0, 0, 0, 0, 0), ". . . . . .", 0, false}, {"three needed", free(4, 3), "0123", 4, false},
	} {
		if ok := rota.ProveRota(x.p, duty(x.r), x.duties); ok != x.want {
			t.Errorf("ProveRota with %s: %v", x.what, ok)
		}
	}
}

// P10.5
func TestBright(t *testing.T) {
	for _, x := range []struct {
		what     string
		m        rota.Mirror
		polished []int
		want     []rota.Range
	}{
		{"the example", mirror(), nil, ranges(80, 90, 55, 85, 45, 85, 30, 75)}, {"two polishings", mirror(), numbers(1, 2), ranges(80, 90, 75, 95, 90, 100, 75, 90)}, {"a polishing at first", mirror(), numbers(0), ranges(80, 90, 55, 85, 45, 85, 30, 75)}, {"a polishing at last", mirror(), numbers(3), ranges(80, 90, 55, 85, 45, 85, 85, 90)}, {"all polishings", mirror(), numbers(0, 1, 2, 3), ranges(80, 90, 75, 95, 90, 100, 85, 90)},
		{"one watch", loses(0, 3, 7), nil, ranges(93, 97)}, {"nothing is lost", loses(100, 0, 0, 0, 0), nil, ranges(100, 100, 100, 100)}, {"all is lost", loses(0, 0, 100, 0, 1), nil, ranges(0, 100, 0, 100)}, {"more than all is lost", loses(0, 60, 70, 30, 60, 5, 20, 5, 5), nil, ranges(30, 40, 0, 10, 0, 5, 0, 0)}, {"polished after all is lost", loses(0, 60, 100, 100, 100, 1, 2), numbers(2), ranges(0, 40, 0, 0, 98, 99)}, {"eight watches", loses(0, slices.Repeat(numbers(1, 2), 8)...), numbers(4), ranges(98, 99, 96, 98, 94, 97, 92, 96, 98, 99, 96, 98, 94, 97, 92, 96)},
	} {
		if list, e := rota.Bright(x.m, x.polished); !slices.Equal(list, x.want) || e != api.OK {
			t.Errorf("Bright with %s: %v, %v, not %v", x.what, list, e, x.want)
		}
	}
}

// P10.5
func TestPolish(t *testing.T) {
	for _, x := range []struct {
		what string
		m    rota.Mirror
		want []int
	}{
		{"the example", mirror(), numbers(1, 2)}, {"no floor", loses(0, 100, 100, 100, 100), nil}, {"nothing is lost", loses(100, 0, 0, 0, 0), nil}, {"just bright enough", loses(30, 0, 20, 5, 25, 0, 10, 10, 15), nil}, {"one less", loses(31, 0, 20, 5, 25, 0, 10, 10, 15), numbers(1)},
		{"one of several", loses(70, 5, 10, 5, 10, 5, 10, 5, 10), numbers(1)}, {"the only one", loses(80, 5, 10, 5, 10, 5, 10, 5, 10), numbers(2)}, {"the last one alone", loses(50, 0, 0, 0, 50, 0, 1), numbers(2)}, {"one or two before", loses(60, 0, 10, 0, 10, 0, 30), numbers(1)}, {"polished each time but the first", loses(10, 90, 90, 90, 90, 90, 90), numbers(1, 2)}, {"at the floor", loses(100, 0, 0, 0, 0), nil}, {"eight watches", loses(99, slices.Repeat(numbers(0, 1), 8)...), numbers(1, 2, 3, 4, 5, 6, 7)}, {"the most can be lost", loses(40, 0, 30, 0, 31), numbers(1)},
	} {
		if list, e := rota.Polish(x.m); !slices.Equal(list, x.want) || e != api.OK {
			t.Errorf("Polish with %s: %v, %v, not %v", x.what, list, e, x.want)
		}
	}
	for _, x := range []struct {
		what string
		m    rota.Mirror
	}{
		{"too much in one watch", loses(60, 0, 0, 0, 41)}, {"one too much for a full mirror", loses(100, 0, 1)}, {"too much at first", loses(1, 0, 100, 0, 0)},
	} {
		if list, e := rota.Polish(x.m); list != nil || e != api.ErrStuck {
			t.Errorf("Polish with %s: %v, %v", x.what, list, e)
		}
	}
}

// P10.1 to P10.5: the errors of all calls, in their order.
func TestErrorsInOrder(t *testing.T) {
	low, high := math.MinInt, math.MaxInt
	good := input{example(), duty("0 1 2 1"), mirror(), numbers(1, 2)}
	spoilt := input{rota.Post{}, duty("9 9"), rota.Mirror{Floor: 101, Loss: ranges(2, 1)}, numbers(9, 8)}
	ok, arg, range0, limit, stuck := api.OK, api.ErrArg, api.ErrRange, api.ErrLimit, api.ErrStuck
	errs := func(post, rota, best, bright, polish api.Errno) []api.Errno {
		return []api.Errno{post, rota, rota, best, best, bright, polish}
	}
	of := func(change func(in *input)) input {
		in := spoilt
		change(&in)
		return in
	}
	mirrors := func(m rota.Mirror) input { return input{good.post, good.rota, m, nil} }
	polished := func(list ...int) input { return input{good.post, good.rota, good.mirror, list} }
	badMirror, badList := errs(ok, ok, ok, arg, arg), errs(ok, ok, ok, range0, ok)
	for _, x := range []struct {
		what string
		in   input
		want []api.Errno
	}{
		{"what is valid", good, errs(ok, ok, ok, ok, ok)}, {"nothing", input{}, errs(arg, arg, arg, arg, arg)}, {"nothing valid", spoilt, errs(arg, arg, arg, arg, arg)}, {"six watches", of(func(in *input) { in.post.Need = make([]int, 6) }), errs(limit, limit, limit, arg, arg)}, {"a wrong rota", of(func(in *input) { in.post = example() }), errs(ok, range0, ok, arg, arg)}, {"no safe rota", of(func(in *input) { in.post = with(numbers(0, 0, 0)); in.rota = duty("0 1 2 1") }), errs(ok, ok, stuck, arg, arg)}, {"no safe rota, and a wrong one", of(func(in *input) { in.post = with(numbers(0, 0, 0)) }), errs(ok, range0, stuck, arg, arg)},
		{"nine wrong losses", of(func(in *input) { in.mirror.Loss = slices.Repeat(ranges(2, 1), 9) }), errs(arg, arg, arg, limit, limit)}, {"nine losses", mirrors(loses(0, make([]int, 18)...)), errs(ok, ok, ok, limit, limit)}, {"eight losses", mirrors(loses(0, make([]int, 16)...)), errs(ok, ok, ok, ok, ok)}, {"no losses", mirrors(loses(0)), badMirror}, {"one loss", mirrors(loses(0, 0, 100)), errs(ok, ok, ok, ok, ok)}, {"a wrong list", of(func(in *input) { in.mirror = mirror() }), errs(arg, arg, arg, range0, ok)}, {"a mirror that does not stay bright", mirrors(loses(100, 0, 1)), errs(ok, ok, ok, ok, stuck)}, {"a mirror that does not stay bright, and a wrong list", of(func(in *input) { in.mirror = loses(100, 0, 1) }), errs(arg, arg, arg, range0, stuck)},
		{"a floor of 0", mirrors(loses(0, 0, 1)), errs(ok, ok, ok, ok, ok)}, {"a floor of 100", mirrors(loses(100, 0, 0)), errs(ok, ok, ok, ok, ok)}, {"a floor below 0", mirrors(loses(-1, 0, 1)), badMirror}, {"a floor above 100", mirrors(loses(101, 0, 0)), badMirror}, {"the smallest number as floor", mirrors(loses(low, 0, 1)), badMirror}, {"the greatest number as floor", mirrors(loses(high, 0, 1)), badMirror},
		{"a range of no losses", mirrors(loses(0, 0, 1, 2, 1)), badMirror}, {"a loss below 0", mirrors(loses(0, -1, 1, 0, 1)), badMirror}, {"losses below 0", mirrors(loses(0, -2, -1)), badMirror}, {"a loss of 100", mirrors(loses(0, 100, 100)), errs(ok, ok, ok, ok, ok)}, {"a loss above 100", mirrors(loses(0, 0, 101)), badMirror}, {"losses above 100", mirrors(loses(0, 0, 1, 101, 101)), badMirror}, {"all numbers as loss", mirrors(loses(0, low, high)), badMirror},
		{"no list", polished(), errs(ok, ok, ok, ok, ok)}, {"all watches", polished(0, 1, 2, 3), errs(ok, ok, ok, ok, ok)}, {"a watch after the last one", polished(0, 4), badList}, {"a watch below 0", polished(-1, 2), badList}, {"a watch twice", polished(1, 1), badList}, {"falling watches", polished(2, 1), badList}, {"watches that fall at last", polished(0, 3, 2), badList}, {"the greatest number as watch", polished(high), badList}, {"the smallest number as watch", polished(low), badList}, {"too many watches", polished(0, 1, 2, 3, 3), badList},
	} {
		results := x.in.all()
		if list := errorsOf(results); !slices.Equal(list, x.want) {
			t.Errorf("%s: %v, not %v", x.what, list, x.want)
		}
		failed(t, results)
	}
}

// P10.1, P10.2: random rotas.
func TestRotasAsTheModel(t *testing.T) {
	kept, failing, safe := 0, 0, 0
	eachOf(large, 4000, func(r *rand.Rand, p rota.Post) {
		x := randomRota(r, p)
		rules, fails := modelRules(p, x), modelFails(p, x)
		if ok, e := rota.Rules(p, x); ok != rules || e != api.OK {
			t.Fatalf("%v: Rules of %v: %v, %v", p, x, ok, e)
		}
		if list, e := rota.Fails(p, x); !slices.Equal(list, fails) || e != api.OK {
			t.Fatalf("%v: Fails of %v: %v, %v, not %v", p, x, list, e, fails)
		}
		duties := dutiesOf(x) + r.Intn(3) - 1
		if ok := rota.ProveRota(p, x, duties); ok != (modelSafe(p, x) && duties >= dutiesOf(x)) {
			t.Fatalf("%v: ProveRota of %v, %v: %v", p, x, duties, ok)
		}
		if rules {
			kept++
		}
		if slices.Max(fails) >= 0 {
			failing++
		}
		if modelSafe(p, x) {
			safe++
		}
	})
	if kept < 500 || kept > 3500 || failing < 500 || failing > 3800 || safe < 50 {
		t.Errorf("%d rotas keep the rules, %d fail, %d are safe", kept, failing, safe)
	}
}

// P10.3, P10.4: all rotas are tried.
func TestBestAsTheModel(t *testing.T) {
	for _, x := range []struct {
		s    scale
		many int
		open solver
	}{{small, 2000, byRotas}, {large, 500, byWatches}} {
		stuck, more, fewer := 0, 0, 0
		eachOf(x.s, x.many, func(r *rand.Rand, p rota.Post) {
			if isWide(p) {
				return
			}
			want, people, ok := modelBest(p, x.open)
			best, duties, e := rota.Best(p)
			if !sameRota(best, want) || duties != dutiesOf(want) || (e == api.OK) != ok || !ok && e != api.ErrStuck {
				t.Fatalf("%v: Best: %v, %v, %v, not %v", p, best, duties, e, want)
			}
			enough, e := rota.Enough(p)
			if !slices.Equal(enough, people) || (e == api.OK) != ok || !ok && e != api.ErrStuck {
				t.Fatalf("%v: Enough: %v, %v, not %v", p, enough, e, people)
			}
			switch {
			case !ok:
				stuck++
			case duties > sum(p.Need):
				more++
			case !slices.Equal(onDuty(best), people):
				fewer++
			}
		})
		if stuck < 50 || stuck > x.many*3/4 || more < 10 || fewer < 10 {
			t.Errorf("%v: of %d posts %d without a safe rota, %d with more duties than needed, %d with a smaller set than that of the best rota", x.s, x.many, stuck, more, fewer)
		}
	}
}

// isWide tells whether there are too many rotas to try all of them.
func isWide(p rota.Post) bool {
	return len(p.Need)*len(p.People) == 20 && sum(p.Need) < 4
}

func sum(list []int) int {
	total := 0
	for _, n := range list {
		total += n
	}
	return total
}

// P10.5: all truths and all lists are tried.
func TestMirrorsAsTheModel(t *testing.T) {
	lengths := map[int]int{}
	eachMirror(true, 2000, func(r *rand.Rand, m rota.Mirror) {
		polished := randomSet(r, len(m.Loss))
		want := modelBright(m, polished)
		if list, e := rota.Bright(m, polished); !slices.Equal(list, want) || e != api.OK {
			t.Fatalf("%v: Bright of %v: %v, %v, not %v", m, polished, list, e, want)
		}
		best, ok := modelPolish(m)
		list, e := rota.Polish(m)
		if !slices.Equal(list, best) || (e == api.OK) != ok || !ok && e != api.ErrStuck {
			t.Fatalf("%v: Polish: %v, %v, not %v", m, list, e, best)
		}
		if ok {
			lengths[len(best)]++
		} else {
			lengths[-1]++
		}
	})
	for many := range 4 {
		if lengths[many-1] < 20 {
			t.Errorf("only so many best polishings of each length: %v", lengths)
		}
	}
}

// P1: whatever the arguments are, each call returns, and with an error it has no other result.
func TestAnyArguments(t *testing.T) {
	r := rand.New(rand.NewSource(33))
	some := func() int {
		return []int{math.MinInt, -2, -1, -1, 0, 0, 1, 1, 2, 2, 3, 4, 5, 6, 100, 101, math.MaxInt}[r.Intn(17)]
	}
	list := func(most int) []int {
		var list []int
		for range r.Intn(most + 1) {
			list = append(list, some())
		}
		return list
	}
	valid := 0
	for range 6000 {
		p := randomPost(r, large)
		in := input{p, randomRota(r, p), randomMirror(r, false), nil}
		in.polished = randomSet(r, len(in.mirror.Loss))
		switch r.Intn(10) {
		case 0:
			in.post.Need = list(7)
		case 1:
			in.post.Need[r.Intn(len(p.Need))] = some()
		case 2:
			in.post.People = append(in.post.People, rota.Person{Able: make([]bool, r.Intn(7)), Rest: some(), Most: some()})
		case 3:
			in.post.People = make([]rota.Person, r.Intn(6))
		case 4:
			in.post.Cases = append(in.post.Cases, list(5))
		case 5:
			in.rota = append(in.rota[1:], list(5))
		case 6:
			in.rota = make([][]int, r.Intn(7))
		case 7:
			in.mirror.Floor, in.polished = some(), list(4)
		case 8:
			in.mirror.Loss = append(in.mirror.Loss, span(some(), some()))
		}
		results := in.all()
		failed(t, results)
		rota.ProveRota(in.post, in.rota, some())
		if !slices.ContainsFunc(errorsOf(results), func(e api.Errno) bool { return e == api.ErrArg || e == api.ErrLimit || e == api.ErrRange }) {
			valid++
		}
	}
	if valid < 500 || valid > 4000 {
		t.Errorf("%d times all arguments are valid", valid)
	}
}

// R4: arguments are not written to, and results are in memory of their own.
func TestMemory(t *testing.T) {
	make0 := func(p rota.Post) input { return input{clonePost(p), duty("0 1 2 1"), mirror(), numbers(1, 2)} }
	for _, p := range []rota.Post{example(), further(), with(), changed(func(p *rota.Post) { p.Need[1], p.Need[2] = 2, 2 })} {
		in, kept := make0(p), make0(p)
		first, again := in.all(), in.all()
		rota.ProveRota(in.post, in.rota, 4)
		if !reflect.DeepEqual(in, kept) {
			t.Fatalf("arguments became %v", in)
		}
		fill(t, lists(first), lists(again))
		if !reflect.DeepEqual(in, kept) || !reflect.DeepEqual(in.all(), again) {
			t.Errorf("%v: the arguments, or later results, changed with the results", p)
		}
	}
	for _, list := range cases(numbers(1, 2, 7), numbers(1, 1, 7)) {
		rota.Bright(mirror(), list[:2])
		rota.Rules(free(3, 0, 0), [][]int{list[:2], list[:1]})
		if list[2] != 7 {
			t.Errorf("behind an argument there is %v", list)
		}
	}
}

// lists has all lists of the results, also those in lists.
func lists(results []any) []any {
	var all []any
	for _, x := range results {
		switch list := x.(type) {
		case [][]int:
			for _, people := range list {
				all = append(all, people)
			}
			all = append(all, list)
		case []int, []rota.Range:
			all = append(all, list)
		}
	}
	return all
}

// fill fills all lists, those behind their ends included, one by one; no other one after it may change.
func fill(t *testing.T, results, want []any) {
	t.Helper()
	for i, x := range results {
		switch list := x.(type) {
		case []int:
			for j := range list[:cap(list)] {
				list[:cap(list)][j] = 99
			}
		case [][]int:
			clear(list[:cap(list)])
		case []rota.Range:
			for j := range list[:cap(list)] {
				list[:cap(list)][j] = span(99, 99)
			}
		}
		for j, y := range results[i+1:] {
			if _, ok := y.([][]int); !ok && !reflect.DeepEqual(y, want[i+1+j]) {
				t.Errorf("the result %d became %v with %d", i+1+j, y, i)
			}
		}
	}
}
