package mask_test

import (
	"math"
	"math/rand"
	"reflect"
	"slices"
	"strings"
	"testing"

	"glister/api"
	"glister/flash"
	"glister/mask"
)

func numbers(list ...int) []int { return list }

func texts(list ...[]int) [][]int { return list }

func sent(hour, station int, text ...int) mask.Sent {
	return mask.Sent{Hour: hour, Station: station, Text: text}
}

func read(hour, station int, signs string) mask.Record {
	return mask.Record{Hour: hour, Station: station, Read: signs}
}

func journal(list ...mask.Sent) []mask.Sent { return list }

func records(list ...mask.Record) []mask.Record { return list }

// example is the log of the chapter.
func example() mask.Log {
	return mask.Log{
		Code: flash.Code{Letters: []string{".", "-", ".."}}, Errors: 1, Sees: numbers(5, mask.Never),
		Journal: journal(sent(6, 0, 1, 0), sent(8, 1, 2)),
		Records: records(read(6, 0, "- ."), read(8, 1, "-"), read(9, 0, ".")),
	}
}

// full has as much of everything as a log can have.
func full() mask.Log {
	l := mask.Log{Code: flash.Code{Letters: []string{"....", "...-", "..-.", "..--", ".-..", ".-.-"}}, Errors: 3, Sees: numbers(0, 23, mask.Never, 22)}
	for i := range api.MaxMaskSent {
		l.Journal = append(l.Journal, sent(22+i%2, i%4, 0, 1, 2, 3, 5))
	}
	for i := range api.MaxMaskRecords {
		l.Records = append(l.Records, read(22+i%2, i%4, strings.Repeat(".-. ", 10)))
	}
	return l
}

// changed is the example after a change.
func changed(change func(l *mask.Log)) mask.Log {
	l := example()
	change(&l)
	return l
}

// exactly is the example read without errors, with other dispatches and records.
func exactly(sees []int, sent []mask.Sent, read ...mask.Record) mask.Log {
	return changed(func(l *mask.Log) { l.Errors, l.Sees, l.Journal, l.Records = 0, sees, sent, read })
}

// input has the arguments of all calls.
type input struct {
	log          mask.Log
	record, hour int
	by           []int
}

// all has the results of each call that has an error.
func (in input) all() []any {
	e0 := mask.CheckLog(in.log)
	own, e1 := mask.Own(in.log, in.record)
	heard, e2 := mask.Heard(in.log, in.hour)
	masked, e3 := mask.Masked(in.log, in.record)
	verdicts, e4 := mask.Verdicts(in.log)
	by, e5 := mask.Assign(in.log)
	left, e6 := mask.Leave(in.log)
	return []any{e0, own, e1, heard, e2, masked, e3, verdicts, e4, by, e5, left, e6}
}

// errorsOf picks the errors from the results of all: CheckLog, Own, Heard, Masked, Verdicts, Assign, Leave.
func errorsOf(results []any) []api.Errno {
	var list []api.Errno
	for _, x := range results {
		if e, ok := x.(api.Errno); ok {
			list = append(list, e)
		}
	}
	return list
}

// failed checks that a call with an error has no other result.
func failed(t *testing.T, results []any) {
	t.Helper()
	for i, x := range results {
		e, ok := x.(api.Errno)
		if ok && e != api.OK && i > 0 && reflect.ValueOf(results[i-1]).Len() > 0 {
			t.Errorf("%v with %v in %v", results[i-1], e, results)
		}
	}
}

// P6.1: what a log can have.
func TestCheckLog(t *testing.T) {
	code := func(list ...string) mask.Log { return changed(func(l *mask.Log) { l.Code.Letters = list }) }
	errors := func(n int) mask.Log { return changed(func(l *mask.Log) { l.Errors = n }) }
	sees := func(list ...int) mask.Log {
		return changed(func(l *mask.Log) { l.Sees, l.Journal, l.Records = list, nil, nil })
	}
	sends := func(s mask.Sent) mask.Log { return changed(func(l *mask.Log) { l.Journal[1] = s }) }
	reads := func(r mask.Record) mask.Log { return changed(func(l *mask.Log) { l.Records[1] = r }) }
	manySent := func(n int) mask.Log {
		return changed(func(l *mask.Log) { l.Journal = slices.Repeat(journal(sent(6, 0, 1)), n) })
	}
	manyRead := func(n int) mask.Log {
		return changed(func(l *mask.Log) { l.Records = slices.Repeat(records(read(6, 0, ".")), n) })
	}
	for _, x := range []struct {
		what string
		l    mask.Log
		want api.Errno
	}{
		{"the example", example(), api.OK}, {"a full log", full(), api.OK}, {"nothing", mask.Log{}, api.ErrArg},
		{"no letters", code(), api.ErrArg}, {"equal letters", code(".", "-", "."), api.ErrArg}, {"six letters", code(".", "-", "..", "--", ".-", "-."), api.OK}, {"seven letters", code(".", "-", "..", "--", ".-", "-.", "..."), api.ErrLimit}, {"seven equal letters", code(".", ".", ".", ".", ".", ".", "."), api.ErrLimit}, {"a letter that is too long", code(".", "-", "....."), api.ErrArg}, {"a letter with a gap", code(".", "-", ". ."), api.ErrArg}, {"a letter of a dispatch too few", code(".", "-"), api.ErrArg},
		{"no errors", errors(0), api.OK}, {"errors below 0", errors(-1), api.ErrArg}, {"the most errors", errors(3), api.OK}, {"more errors", errors(4), api.ErrArg}, {"endless errors", errors(math.MaxInt), api.ErrArg}, {"the smallest number of errors", errors(math.MinInt), api.ErrArg},
		{"no stations", sees(), api.ErrArg}, {"one station", sees(0), api.OK}, {"four stations", sees(0, 23, mask.Never, 5), api.OK}, {"five stations", sees(0, 0, 0, 0, 0), api.ErrLimit}, {"five wrong stations", sees(99, 99, 99, 99, 99), api.ErrLimit},
		{"seen too late", sees(0, 24), api.ErrArg}, {"seen before never", sees(-2, 0), api.ErrArg}, {"the greatest hour", sees(math.MaxInt), api.ErrArg}, {"the smallest hour", sees(math.MinInt), api.ErrArg},
		{"no dispatches", manySent(0), api.OK}, {"eight dispatches", manySent(8), api.OK}, {"nine dispatches", manySent(9), api.ErrLimit}, {"no records", manyRead(0), api.OK}, {"six records", manyRead(6), api.OK}, {"seven records", manyRead(7), api.ErrLimit},
		{"a dispatch at 0", sends(sent(0, 1, 2)), api.OK}, {"a dispatch before 0", sends(sent(-1, 1, 2)), api.ErrArg}, {"the last hour", sends(sent(23, 1, 2)), api.OK}, {"a late dispatch", sends(sent(24, 1, 2)), api.ErrArg}, {"a dispatch of no station", sends(sent(8, 2, 2)), api.ErrArg}, {"one of a station below 0", sends(sent(8, -1, 2)), api.ErrArg},
		{"an empty text", sends(sent(8, 1)), api.ErrArg}, {"five letters", sends(sent(8, 1, 2, 1, 0, 1, 2)), api.OK}, {"six letters of a text", sends(sent(8, 1, 0, 0, 0, 0, 0, 0)), api.ErrArg}, {"no letter of the code", sends(sent(8, 1, 0, 3)), api.ErrArg}, {"a letter below 0", sends(sent(8, 1, -1, 0)), api.ErrArg}, {"the greatest numbers of a dispatch", sends(sent(math.MaxInt, math.MaxInt, math.MaxInt)), api.ErrArg}, {"the smallest numbers of a dispatch", sends(sent(math.MinInt, math.MinInt, math.MinInt)), api.ErrArg},
		{"a record at 0", reads(read(0, 1, "-")), api.OK}, {"a record before 0", reads(read(-1, 1, "-")), api.ErrArg}, {"a record at the last hour", reads(read(23, 1, "-")), api.OK}, {"a late record", reads(read(24, 1, "-")), api.ErrArg}, {"a record of no station", reads(read(8, 2, "-")), api.ErrArg}, {"one of a station below zero", reads(read(8, -1, "-")), api.ErrArg},
		{"nothing read", reads(read(8, 1, "")), api.OK}, {"40 signs", reads(read(8, 1, strings.Repeat("-", 40))), api.OK}, {"41 signs", reads(read(8, 1, strings.Repeat("-", 41))), api.ErrArg}, {"no sign", reads(read(8, 1, ". -x")), api.ErrArg}, {"41 bytes that are no signs", reads(read(8, 1, strings.Repeat("x", 41))), api.ErrArg}, {"a line end", reads(read(8, 1, "\n")), api.ErrArg},
		{"the greatest numbers of a record", reads(read(math.MaxInt, math.MaxInt, "-")), api.ErrArg}, {"the smallest numbers of a record", reads(read(math.MinInt, math.MinInt, "-")), api.ErrArg},
		{"five stations with a wrong code", mask.Log{Sees: make([]int, 5)}, api.ErrLimit}, {"nine dispatches with a wrong code", mask.Log{Journal: make([]mask.Sent, 9)}, api.ErrLimit}, {"seven records with a wrong code", mask.Log{Records: make([]mask.Record, 7)}, api.ErrLimit}, {"seven letters alone", mask.Log{Code: flash.Code{Letters: make([]string, 7)}}, api.ErrLimit},
	} {
		if e := mask.CheckLog(x.l); e != x.want {
			t.Errorf("CheckLog of %s: %v, not %v", x.what, e, x.want)
		}
	}
}

// P6.1
func TestOwn(t *testing.T) {
	// Four dispatches at one hour, and others that differ in one thing each.
	many := exactly(numbers(0, 0), journal(sent(4, 0, 2), sent(4, 1, 2), sent(5, 0, 2), sent(4, 0, 1), sent(4, 0, 0), sent(4, 0, 2), sent(3, 0, 2)), read(4, 0, ".."))
	read1 := func(errors int, signs string) mask.Log {
		l := cloneLog(many)
		l.Errors, l.Records[0].Read = errors, signs
		return l
	}
	for _, x := range []struct {
		l      mask.Log
		record int
		want   []int
	}{
		{example(), 0, numbers(0)}, {example(), 1, numbers(1)}, {example(), 2, nil},
		{many, 0, numbers(0, 5)}, {read1(1, ".."), 0, numbers(0, 3, 5)}, {read1(2, ".."), 0, numbers(0, 3, 5)}, {read1(0, "."), 0, numbers(4)}, {read1(1, "."), 0, numbers(0, 4, 5)}, {read1(2, "."), 0, numbers(0, 4, 5)},
		{read1(0, ""), 0, nil}, {read1(1, ""), 0, numbers(3, 4)}, {read1(2, ""), 0, numbers(0, 3, 4, 5)}, {read1(3, " - "), 0, numbers(0, 3, 5)}, {read1(2, " - "), 0, numbers(3)},
		{changed(func(l *mask.Log) { l.Errors = 0 }), 1, nil}, {changed(func(l *mask.Log) { l.Journal = nil }), 0, nil},
	} {
		if list, e := mask.Own(x.l, x.record); !slices.Equal(list, x.want) || e != api.OK {
			t.Errorf("%v: Own of %d: %v, %v, not %v", x.l, x.record, list, e, x.want)
		}
	}
}

// P6.2
func TestHeard(t *testing.T) {
	two := exactly(numbers(4, 6, mask.Never, 0), journal(sent(5, 1, 0), sent(6, 1, 1), sent(3, 0, 2), sent(4, 0, 0, 0, 2), sent(4, 0, 0, 2), sent(23, 3, 1, 2), sent(7, 2, 2, 2), sent(0, 3, 0)))
	nested := exactly(numbers(0), journal(sent(0, 0, 1, 0, 1, 0, 2)))
	for _, x := range []struct {
		l    mask.Log
		hour int
		want [][]int
	}{
		{example(), 8, texts(numbers(0), numbers(1), numbers(1, 0))}, {example(), 6, nil}, {example(), 7, texts(numbers(0), numbers(1), numbers(1, 0))}, {example(), 0, nil}, {example(), 23, texts(numbers(0), numbers(1), numbers(1, 0))},
		// It hears from the hour at which it sees, and can send at the next one; what it never sees, or at the last hour, is not sent.
		{two, 0, nil}, {two, 1, texts(numbers(0))}, {two, 4, texts(numbers(0))}, {two, 5, texts(numbers(0), numbers(2), numbers(0, 0), numbers(0, 2), numbers(0, 0, 2))}, {two, 6, texts(numbers(0), numbers(2), numbers(0, 0), numbers(0, 2), numbers(0, 0, 2))}, {two, 7, texts(numbers(0), numbers(1), numbers(2), numbers(0, 0), numbers(0, 2), numbers(0, 0, 2))}, {two, 23, texts(numbers(0), numbers(1), numbers(2), numbers(0, 0), numbers(0, 2), numbers(0, 0, 2))},
		{nested, 1, texts(numbers(0), numbers(1), numbers(2), numbers(0, 1), numbers(0, 2), numbers(1, 0), numbers(0, 1, 0), numbers(1, 0, 1), numbers(1, 0, 2), numbers(0, 1, 0, 2), numbers(1, 0, 1, 0), numbers(1, 0, 1, 0, 2))},
		{exactly(numbers(0), nil), 23, nil},
	} {
		if list, e := mask.Heard(x.l, x.hour); !equalTexts(list, x.want) || e != api.OK {
			t.Errorf("%v: Heard at %d: %v, %v, not %v", x.l, x.hour, list, e, x.want)
		}
	}
}

func equalTexts(a, b [][]int) bool { return slices.EqualFunc(a, b, slices.Equal) }

// P6.2
func TestMasked(t *testing.T) {
	errors := func(n int, hour int, signs string) mask.Log {
		return changed(func(l *mask.Log) {
			l.Errors, l.Journal[0].Text, l.Records[0] = n, numbers(1, 2, 0), read(hour, 1, signs)
		})
	}
	for _, x := range []struct {
		l      mask.Log
		record int
		want   []int
	}{
		{example(), 0, nil}, {example(), 1, numbers(1)}, {example(), 2, numbers(0)},
		// What was heard is 0; 1; 2; 1, 2; 2, 0; 1, 2, 0.
		{errors(0, 7, ".."), 0, numbers(2)}, {errors(1, 7, ".."), 0, numbers(1)}, {errors(2, 7, "."), 0, numbers(0)}, {errors(0, 7, "- .."), 0, numbers(1, 2)}, {errors(0, 7, "- .. ."), 0, numbers(1, 2, 0)}, {errors(0, 6, "- .. ."), 0, nil},
		{errors(0, 7, "- ."), 0, nil}, {errors(1, 7, "- ."), 0, numbers(1, 2)}, {errors(2, 7, "- ."), 0, numbers(1, 2)}, {errors(0, 7, ".. -"), 0, nil}, {errors(1, 7, ".. -"), 0, nil}, {errors(2, 7, ".. -"), 0, numbers(1, 2)}, {errors(0, 7, ""), 0, nil}, {errors(1, 7, ""), 0, numbers(0)},
	} {
		text, e := mask.Masked(x.l, x.record)
		want := api.OK
		if x.want == nil {
			want = api.ErrNone
		}
		if !slices.Equal(text, x.want) || e != want {
			t.Errorf("%v: Masked of %d: %v, %v, not %v", x.l, x.record, text, e, x.want)
		}
	}
}

// repeated has one text, first at 1 and then as often as told at 2, and so many records at 2.
func repeated(sees, many, readings int) mask.Log {
	dispatches := append(journal(sent(1, 0, 0)), slices.Repeat(journal(sent(2, 0, 0)), many)...)
	return exactly(numbers(sees), dispatches, slices.Repeat(records(read(2, 0, ".")), readings)...)
}

// crossed has the records 0, which can be the dispatches 0 and 1, and 1, which can be 0 alone.
func crossed() mask.Log {
	return changed(func(l *mask.Log) {
		l.Sees, l.Journal, l.Records = numbers(mask.Never), journal(sent(3, 0, 2), sent(3, 0, 0)), records(read(3, 0, "."), read(3, 0, "-"))
	})
}

// P6.3, P6.4
func TestVerdictsAndAssign(t *testing.T) {
	never := mask.Never
	for _, x := range []struct {
		what         string
		l            mask.Log
		verdicts, by []int
		e            api.Errno
	}{
		{"the example", example(), numbers(mask.True, mask.Open, mask.False), numbers(0, 1, mask.Mask), api.OK},
		{"no records", exactly(numbers(0), journal(sent(1, 0, 0))), nil, nil, api.OK}, {"nothing at all", exactly(numbers(0), nil), nil, nil, api.OK},
		{"a record of nothing", exactly(numbers(0), nil, read(1, 0, "")), nil, nil, api.ErrFalse}, {"a record that cannot be", changed(func(l *mask.Log) { l.Records[2].Read = "- - -" }), nil, nil, api.ErrFalse},
		{"a dispatch for two records", repeated(0, 1, 2), numbers(mask.Open, mask.Open), numbers(mask.Mask, 1), api.OK}, {"a dispatch for two records that cannot be false", repeated(2, 1, 2), nil, nil, api.ErrFalse}, {"three records of two dispatches", repeated(0, 2, 3), numbers(mask.Open, mask.Open, mask.Open), numbers(mask.Mask, 1, 2), api.OK}, {"two records of three dispatches", repeated(0, 3, 2), numbers(mask.Open, mask.Open), numbers(1, 2), api.OK},
		{"seen too late", repeated(2, 2, 2), numbers(mask.True, mask.True), numbers(1, 2), api.OK}, {"never seen", repeated(never, 6, 6), numbers(mask.True, mask.True, mask.True, mask.True, mask.True, mask.True), numbers(1, 2, 3, 4, 5, 6), api.OK}, {"six false records", repeated(0, 0, 6), slices.Repeat(numbers(mask.False), 6), slices.Repeat(numbers(mask.Mask), 6), api.OK},
		{"a dispatch that another record needs", crossed(), numbers(mask.True, mask.True), numbers(1, 0), api.OK},
		// The record 1 must have the dispatch that is one of both.
		{"false beside its dispatch", changed(func(l *mask.Log) {
			l.Journal = journal(sent(6, 0, 0), sent(8, 1, 2))
			l.Records = records(read(8, 1, "."), read(8, 1, ".. "))
		}), numbers(mask.False, mask.True), numbers(mask.Mask, 1), api.OK},
		{"lexicographically first", exactly(numbers(0), journal(sent(1, 0, 0), sent(2, 0, 0), sent(2, 0, 2), sent(2, 0, 0)), read(2, 0, "."), read(2, 0, ".."), read(2, 0, ".")), numbers(mask.Open, mask.True, mask.Open), numbers(1, 2, 3), api.OK},
	} {
		if list, e := mask.Verdicts(x.l); !slices.Equal(list, x.verdicts) || e != x.e {
			t.Errorf("Verdicts of %s: %v, %v, not %v", x.what, list, e, x.verdicts)
		}
		by, e := mask.Assign(x.l)
		if !slices.Equal(by, x.by) || e != x.e {
			t.Errorf("Assign of %s: %v, %v, not %v", x.what, by, e, x.by)
		}
		if mask.ProveAssignment(x.l, by) != (e == api.OK) {
			t.Errorf("ProveAssignment of %s: %v", x.what, by)
		}
	}
}

// P6.5
func TestLeave(t *testing.T) {
	again := func(list ...int) mask.Log {
		return changed(func(l *mask.Log) {
			for _, i := range list {
				l.Records = append(l.Records, l.Records[i])
			}
		})
	}
	wrong := read(0, 0, "-")
	for _, x := range []struct {
		what string
		l    mask.Log
		want []int
	}{
		{"the example", example(), nil}, {"no records", repeated(0, 1, 0), nil},
		{"a record once more", again(0), numbers(0)}, {"a record twice more", again(0, 0), numbers(0, 3)}, {"records that can be false", again(1, 2, 2), nil},
		{"a record of nothing", changed(func(l *mask.Log) { l.Records[1] = wrong }), numbers(1)}, {"the last record", changed(func(l *mask.Log) { l.Records[2] = wrong }), numbers(2)}, {"two records", changed(func(l *mask.Log) { l.Records[0], l.Records[2] = wrong, wrong }), numbers(0, 2)}, {"all records", changed(func(l *mask.Log) { l.Journal = nil }), numbers(0, 1, 2)}, {"six records", exactly(numbers(0), nil, slices.Repeat(records(wrong), 6)...), numbers(0, 1, 2, 3, 4, 5)},
		{"six records of two dispatches", repeated(mask.Never, 2, 6), numbers(0, 1, 2, 3)}, {"six records of five dispatches", repeated(2, 5, 6), numbers(0)},
		{"one record of a dispatch and one of nothing", changed(func(l *mask.Log) { l.Records = append(l.Records, wrong, l.Records[0]) }), numbers(0, 3)},
		{"records of which only the first one can be something else", changed(func(l *mask.Log) {
			*l = crossed()
			l.Records = append(l.Records, l.Records[1])
		}), numbers(1)},
	} {
		if list, e := mask.Leave(x.l); !slices.Equal(list, x.want) || e != api.OK {
			t.Errorf("Leave of %s: %v, %v, not %v", x.what, list, e, x.want)
		}
	}
}

// P6.4
func TestProveAssignment(t *testing.T) {
	never := mask.Mask
	for _, x := range []struct {
		what string
		l    mask.Log
		by   []int
		want bool
	}{
		{"the best one", example(), numbers(0, 1, never), true}, {"another one", example(), numbers(0, never, never), true}, {"a true record as a false one", example(), numbers(never, 1, never), false}, {"a false record as a true one", example(), numbers(0, 1, 1), false}, {"a dispatch of another record", example(), numbers(1, 0, never), false},
		{"a number too few", example(), numbers(0, 1), false}, {"no numbers", example(), nil, false}, {"a number too many", example(), numbers(0, 1, never, never), false}, {"no dispatch", example(), numbers(0, 2, never), false}, {"a number below Mask", example(), numbers(0, -2, never), false}, {"the greatest number", example(), numbers(0, math.MaxInt, never), false}, {"the smallest number", example(), numbers(math.MinInt, 1, never), false},
		{"a dispatch twice", repeated(0, 2, 2), numbers(1, 1), false}, {"two dispatches", repeated(0, 2, 2), numbers(2, 1), true}, {"a dispatch and Mask", repeated(0, 2, 2), numbers(2, never), true}, {"Mask twice", repeated(0, 2, 2), numbers(never, never), true}, {"Mask, and a dispatch twice", repeated(0, 2, 3), numbers(2, never, 2), false}, {"a dispatch of another hour", repeated(0, 2, 2), numbers(0, 1), false}, {"a number too many for no record", repeated(0, 2, 0), numbers(1), false},
		{"no records", repeated(0, 2, 0), nil, true}, {"no records, and an empty list", repeated(0, 2, 0), numbers(), true}, {"nothing", mask.Log{}, nil, false}, {"no assignment", repeated(2, 1, 2), numbers(1, 1), false},
		{"a wrong log", changed(func(l *mask.Log) { l.Errors = 4 }), numbers(0, 1, never), false}, {"a wrong code", changed(func(l *mask.Log) { l.Code.Letters[2] = "." }), numbers(0, 1, never), false}, {"five stations", changed(func(l *mask.Log) { l.Sees = numbers(5, -1, -1, -1, -1) }), numbers(0, 1, never), false},
	} {
		if ok := mask.ProveAssignment(x.l, x.by); ok != x.want {
			t.Errorf("ProveAssignment with %s: %v", x.what, ok)
		}
	}
}

// P6.1 to P6.5: the errors of all calls, in their order.
func TestErrorsInOrder(t *testing.T) {
	good := input{log: example(), record: 1, hour: 8}
	with := func(change func(in *input)) input {
		in := good
		in.log = cloneLog(in.log)
		change(&in)
		return in
	}
	all := func(e api.Errno) []api.Errno { return slices.Repeat([]api.Errno{e}, 7) }
	none, noRange, noNone, noFalse := api.OK, api.ErrRange, api.ErrNone, api.ErrFalse
	for _, x := range []struct {
		what string
		in   input
		want []api.Errno
	}{
		{"what is valid", good, all(none)},
		{"no log", input{record: 9, hour: 99}, all(api.ErrArg)},
		{"too many stations", input{log: mask.Log{Sees: make([]int, 5)}, record: 9, hour: 99}, all(api.ErrLimit)},
		{"too many dispatches", with(func(in *input) { in.log.Journal, in.log.Errors, in.record = make([]mask.Sent, 9), 4, 9 }), all(api.ErrLimit)},
		{"too many records", with(func(in *input) { in.log.Records, in.hour = make([]mask.Record, 7), 99 }), all(api.ErrLimit)},
		{"too many letters", with(func(in *input) { in.log.Code.Letters, in.log.Errors = make([]string, 7), 4 }), all(api.ErrLimit)},
		{"a wrong letter", with(func(in *input) { in.log.Code.Letters[0], in.hour = "x", 24 }), all(api.ErrArg)},
		{"too many errors", with(func(in *input) { in.log.Errors, in.record, in.hour = 4, -1, -1 }), all(api.ErrArg)},
		{"a wrong record that is not asked about", with(func(in *input) { in.log.Records[2].Station = 2 }), all(api.ErrArg)},
		{"a wrong dispatch that is not heard", with(func(in *input) { in.log.Journal[1].Text = nil }), all(api.ErrArg)},
		{"no record", with(func(in *input) { in.record = 3 }), []api.Errno{none, noRange, none, noRange, none, none, none}},
		{"a record below 0", with(func(in *input) { in.record = -1 }), []api.Errno{none, noRange, none, noRange, none, none, none}},
		{"the last record", with(func(in *input) { in.record = 2 }), all(none)},
		{"a record that cannot be false", with(func(in *input) { in.record = 0 }), []api.Errno{none, none, none, noNone, none, none, none}},
		{"the first hour", with(func(in *input) { in.hour = 0 }), all(none)},
		{"the last hour", with(func(in *input) { in.hour = 23 }), all(none)},
		{"an hour below 0", with(func(in *input) { in.hour = -1 }), []api.Errno{none, none, noRange, none, none, none, none}},
		{"a late hour", with(func(in *input) { in.hour = 24 }), []api.Errno{none, none, noRange, none, none, none, none}},
		{"no assignment", with(func(in *input) { in.log.Records[2].Read = "- - -" }), []api.Errno{none, none, none, none, noFalse, noFalse, none}},
		{"no assignment and no record", with(func(in *input) { in.log.Records[2].Read, in.record = "- - -", 3 }), []api.Errno{none, noRange, none, noRange, noFalse, noFalse, none}},
		{"no records at all", with(func(in *input) { in.log.Records, in.record = nil, 0 }), []api.Errno{none, noRange, none, noRange, none, none, none}},
		{"the greatest numbers", with(func(in *input) { in.record, in.hour = math.MaxInt, math.MaxInt }), []api.Errno{none, noRange, noRange, noRange, none, none, none}},
		{"the smallest numbers", with(func(in *input) { in.record, in.hour = math.MinInt, math.MinInt }), []api.Errno{none, noRange, noRange, noRange, none, none, none}},
	} {
		results := x.in.all()
		if list := errorsOf(results); !slices.Equal(list, x.want) {
			t.Errorf("%s: %v, not %v", x.what, list, x.want)
		}
		failed(t, results)
	}
}

// P6.1, P6.2: all texts of the code are tried.
func TestRecordsAsTheModel(t *testing.T) {
	own, masked, none := 0, 0, 0
	eachLog(250, func(r *rand.Rand, l mask.Log) {
		for record := range l.Records {
			want := modelOwn(l, record)
			if list, e := mask.Own(l, record); !slices.Equal(list, want) || e != api.OK {
				t.Fatalf("%v: Own of %d: %v, %v, not %v", l, record, list, e, want)
			}
			if len(want) > 0 {
				own++
			}
			text := modelMasked(l, record)
			list, e := mask.Masked(l, record)
			if !slices.Equal(list, text) || (e == api.OK) != (text != nil) || text == nil && e != api.ErrNone {
				t.Fatalf("%v: Masked of %d: %v, %v, not %v", l, record, list, e, text)
			}
			if text == nil {
				none++
			} else {
				masked++
			}
		}
	})
	if own < 150 || masked < 100 || none < 100 {
		t.Errorf("only %d records with dispatches, %d that can be false, %d that cannot", own, masked, none)
	}
}

// P6.2: all texts of the code are tried.
func TestHeardAsTheModel(t *testing.T) {
	many := 0
	eachLog(600, func(r *rand.Rand, l mask.Log) {
		hour := r.Intn(5)
		if r.Intn(2) == 0 {
			hour = r.Intn(api.MaxMaskHour + 1)
		}
		want := modelHeard(l, hour)
		if list, e := mask.Heard(l, hour); !equalTexts(list, want) || e != api.OK {
			t.Fatalf("%v: Heard at %d: %v, %v, not %v", l, hour, list, e, want)
		}
		if len(want) > 6 {
			many++
		}
	})
	if many < 50 {
		t.Errorf("only %d logs with many texts", many)
	}
}

// P6.3, P6.4, P6.5: all assignments, and all sets of records, are tried.
func TestAssignmentsAsTheModel(t *testing.T) {
	verdicts, left := map[int]int{}, map[int]int{}
	eachSmall(1500, func(r *rand.Rand, l mask.Log) {
		want := modelLeave(l)
		left[len(want)]++
		if list, e := mask.Leave(l); !slices.Equal(list, want) || e != api.OK {
			t.Fatalf("%v: Leave %v, %v, not %v", l, list, e, want)
		}
		list, e := mask.Verdicts(l)
		by, f := mask.Assign(l)
		if len(want) > 0 {
			if list != nil || e != api.ErrFalse || by != nil || f != api.ErrFalse {
				t.Fatalf("%v: Verdicts %v, %v, Assign %v, %v", l, list, e, by, f)
			}
			return
		}
		all := modelAssignments(l)
		if want := modelVerdicts(all); !slices.Equal(list, want) || e != api.OK {
			t.Fatalf("%v: Verdicts %v, %v, not %v", l, list, e, want)
		}
		if want := modelBest(all); !slices.Equal(by, want) || f != api.OK {
			t.Fatalf("%v: Assign %v, %v, not %v", l, by, f, want)
		}
		for _, verdict := range list {
			verdicts[verdict]++
		}
	})
	for many := range 3 {
		if left[many] < 30 {
			t.Errorf("only so many smallest sets of each length: %v", left)
		}
	}
	for verdict := mask.True; verdict <= mask.Open; verdict++ {
		if verdicts[verdict] < 50 {
			t.Errorf("only so many of each verdict: %v", verdicts)
		}
	}
}

// P6.4: all lists are tried.
func TestProveAssignmentAsTheModel(t *testing.T) {
	counts := map[bool]int{}
	eachSmall(600, func(r *rand.Rand, l mask.Log) {
		if len(l.Records) > 3 {
			return
		}
		all := modelAssignments(l)
		eachList(len(l.Records), len(l.Journal), func(by []int) {
			want := slices.ContainsFunc(all, func(other []int) bool { return slices.Equal(by, other) })
			counts[want]++
			if ok := mask.ProveAssignment(l, by); ok != want {
				t.Fatalf("%v: ProveAssignment of %v: %v", l, by, ok)
			}
		})
	})
	if counts[true] < 100 || counts[false] < 1000 {
		t.Errorf("only so many lists that are assignments, or not: %v", counts)
	}
}

// P1: whatever the arguments are, each call returns, and with an error it has no other result.
func TestAnyArguments(t *testing.T) {
	r := rand.New(rand.NewSource(16))
	some := func() int {
		return []int{math.MinInt, -2, -1, 0, 0, 1, 1, 2, 3, 4, 6, 8, 23, 24, math.MaxInt}[r.Intn(15)]
	}
	list := func(most int) []int {
		var list []int
		for range r.Intn(most + 1) {
			list = append(list, some())
		}
		return list
	}
	signs := func() string {
		return []string{"", ".", "- .", "..", "x", ". .\x00", strings.Repeat("-", 41), strings.Repeat(" .", 20)}[r.Intn(8)]
	}
	valid := 0
	for range 5000 {
		in := input{log: example(), record: some(), hour: some(), by: list(7)}
		switch r.Intn(5) {
		case 0:
			in.log = mask.Log{Code: flash.Code{Letters: []string{signs(), signs(), signs()}}, Errors: some(), Sees: list(5)}
		case 1:
			in.log.Errors, in.log.Sees = some(), list(5)
		case 2:
			for range r.Intn(9) {
				in.log.Journal = append(in.log.Journal, sent(some(), some(), list(6)...))
			}
		case 3:
			for range r.Intn(6) {
				in.log.Records = append(in.log.Records, read(some(), some(), signs()))
			}
		}
		failed(t, in.all())
		mask.ProveAssignment(in.log, in.by)
		if mask.CheckLog(in.log) == api.OK {
			valid++
		}
	}
	if valid < 1000 || valid > 4000 {
		t.Errorf("%d logs are valid", valid)
	}
}

// R4: arguments are not written to, and results are in memory of their own.
func TestMemory(t *testing.T) {
	in := input{log: example(), record: 2, hour: 9, by: numbers(0, 1, mask.Mask, 7)[:3]}
	in.log.Records = append(in.log.Records, in.log.Records[0])
	proper := in
	proper.log = example()
	for _, in := range []input{in, proper} {
		kept := in
		kept.log, kept.by = cloneLog(in.log), slices.Clone(in.by)
		first, again := in.all(), in.all()
		mask.ProveAssignment(in.log, in.by)
		if !reflect.DeepEqual(in, kept) || in.by[:4][3] != 7 {
			t.Fatalf("arguments became %v", in)
		}
		fill(t, first, again)
		if !reflect.DeepEqual(in, kept) || !reflect.DeepEqual(in.all(), again) {
			t.Error("the arguments, or later results, changed with the results")
		}
	}
}

// fill fills all lists, those behind their ends included, one by one; no other one may change.
func fill(t *testing.T, results, want []any) {
	t.Helper()
	for i, x := range results {
		switch list := x.(type) {
		case []int:
			fillInts(list)
		case [][]int:
			for j := range list {
				if !slices.Equal(list[j], want[i].([][]int)[j]) {
					t.Errorf("the list %d became %v", j, list[j])
				}
				fillInts(list[j])
			}
			for j := range list[:cap(list)] {
				list[:cap(list)][j] = numbers(99)
			}
		}
		for j, y := range results {
			if j > i && !reflect.DeepEqual(y, want[j]) {
				t.Errorf("the result %d became %v with %d", j, y, i)
			}
		}
	}
}

func fillInts(list []int) {
	list = list[:cap(list)]
	for i := range list {
		list[i] = 99
	}
}
