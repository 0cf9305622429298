package flash_test

import (
	"math/rand"
	"slices"
	"testing"

	"glister/api"
	"glister/flash"
)

// texts returns the Texts of a call that has no error.
func texts(t *testing.T, c flash.Code, read string, errors, letters int) [][]int {
	t.Helper()
	list, e := flash.Texts(c, read, errors, letters)
	if e != api.OK {
		t.Fatalf("Texts by %q of %q, %d, %d: %v", c.Letters, read, errors, letters, e)
	}
	return list
}

// some picks some of the texts, at least one.
func some(r *rand.Rand, texts [][]int) [][]int {
	list := slices.Clone(texts)
	r.Shuffle(len(list), func(i, j int) { list[i], list[j] = list[j], list[i] })
	return list[:1+r.Intn(len(list))]
}

func reversed(s string) string {
	b := []byte(s)
	slices.Reverse(b)
	return string(b)
}

// P2.6
func TestWhatWasSent(t *testing.T) {
	wrong := 0
	eachRandom(400, func(r *rand.Rand) {
		c := randomCode(r, 6)
		text := randomText(r, len(c.Letters), 5)
		errors := r.Intn(4)
		read, steps, made := misread(r, signsOf(c, text), errors)
		if !flash.ProveSteps(signsOf(c, text), read, steps, made) {
			t.Fatalf("%q, %q: not %v", signsOf(c, text), read, steps)
		}
		if list := texts(t, c, read, errors, 5); !hasText(list, text) {
			t.Fatalf("Texts by %q of %q, %d errors: %v is missing", c.Letters, read, errors, text)
		}
		wrong += made
	})
	if wrong < 200 {
		t.Errorf("only %d errors", wrong)
	}
}

// P2.7
func TestNoErrors(t *testing.T) {
	eachRandom(400, func(r *rand.Rand) {
		sent := randomSigns(r, 40)
		if n, e := flash.Errors(sent, sent); n != 0 || e != api.OK {
			t.Fatalf("Errors of %q twice: %d, %v", sent, n, e)
		}
		if read := randomSigns(r, 40); read != sent {
			if n, e := flash.Errors(sent, read); n == 0 && e == api.OK {
				t.Fatalf("no errors between %q and %q", sent, read)
			}
		}
		if read, _, _ := misread(r, sent[:len(sent)/2], 3); read != sent[:len(sent)/2] {
			if n, e := flash.Errors(sent[:len(sent)/2], read); n == 0 || e != api.OK {
				t.Fatalf("Errors of %q and %q: %d, %v", sent[:len(sent)/2], read, n, e)
			}
		}
	})
}

// P2.8
func TestMoreErrors(t *testing.T) {
	grew := 0
	eachRandom(300, func(r *rand.Rand) {
		c := randomCode(r, 4)
		read, _, _ := misread(r, signsOf(c, randomText(r, len(c.Letters), 3)), 2)
		errors, letters := r.Intn(3), r.Intn(5)
		few := texts(t, c, read, errors, letters)
		for _, more := range [][][]int{texts(t, c, read, errors+1, letters), texts(t, c, read, errors, letters+1)} {
			for _, text := range few {
				if !hasText(more, text) {
					t.Fatalf("Texts by %q of %q: %v is missing with more errors or letters than %d, %d", c.Letters, read, text, errors, letters)
				}
			}
			grew += len(more) - len(few)
		}
	})
	if grew < 100 {
		t.Errorf("only %d texts more", grew)
	}
}

// P2.9
func TestNoFewerErrors(t *testing.T) {
	tried := 0
	eachRandom(300, func(r *rand.Rand) {
		sent := randomSigns(r, 7)
		read, _, _ := misread(r, sent, 4)
		fewest, e := flash.Errors(sent, read)
		first, f := flash.Explain(sent, read)
		if e != api.OK || f != api.OK {
			t.Fatalf("%q, %q: %v, %v", sent, read, e, f)
		}
		seen := false
		eachSteps(sent, read, min(fewest+2, 5), func(steps []int, errors int) {
			tried++
			if errors < fewest || errors == fewest && slices.Compare(steps, first) < 0 {
				t.Fatalf("%q, %q: %v with %d errors, not %v with %d", sent, read, first, fewest, steps, errors)
			}
			if !flash.ProveSteps(sent, read, steps, errors) || flash.ProveSteps(sent, read, steps, errors-1) {
				t.Fatalf("%q, %q: %v have %d errors", sent, read, steps, errors)
			}
			seen = seen || errors == fewest && slices.Equal(steps, first)
		})
		if !seen {
			t.Fatalf("%q, %q: %v do not explain it with %d errors", sent, read, first, fewest)
		}
	})
	if tried < 1000 {
		t.Errorf("only %d lists of steps", tried)
	}
}

// P2.3, P2.9: any list of steps of a short string.
func TestAnySteps(t *testing.T) {
	eachRandom(100, func(r *rand.Rand) {
		sent := randomSigns(r, 3)
		read, _, _ := misread(r, sent, 2)
		explain := map[[4]int]int{}
		eachSteps(sent, read, 8, func(steps []int, errors int) {
			if key := [4]int{-1, -1, -1, -1}; len(steps) <= len(key) {
				copy(key[:], steps)
				explain[key] = errors
			}
		})
		eachText(6, 4, func(steps []int) {
			key := [4]int{-1, -1, -1, -1}
			copy(key[:], steps)
			errors, ok := explain[key]
			if flash.ProveSteps(sent, read, steps, 8) != ok || ok && flash.ProveSteps(sent, read, steps, errors-1) {
				t.Fatalf("ProveSteps of %q, %q, %v: it should be %v, with %d errors", sent, read, steps, ok, errors)
			}
		})
	})
}

// P2.10
func TestOneAfterTheOther(t *testing.T) {
	fewer := 0
	eachRandom(400, func(r *rand.Rand) {
		a, c := randomSigns(r, 10), randomSigns(r, 10)
		b, _, _ := misread(r, a, 5)
		d, _, _ := misread(r, c, 5)
		m, e := flash.Errors(a, b)
		n, f := flash.Errors(c, d)
		both, g := flash.Errors(a+c, b+d)
		if e != api.OK || f != api.OK || g != api.OK || both > m+n {
			t.Fatalf("Errors of %q, %q: %d, of %q, %q: %d, together: %d", a, b, m, c, d, n, both)
		}
		if both < m+n {
			fewer++
		}
	})
	if fewer == 0 {
		t.Error("never fewer errors together")
	}
}

// P2.11
func TestLengths(t *testing.T) {
	eachRandom(400, func(r *rand.Rand) {
		sent := randomSigns(r, 20)
		for _, read := range []string{randomSigns(r, 20), sent[:r.Intn(len(sent)+1)]} {
			n, e := flash.Errors(sent, read)
			if e == api.OK && max(len(sent)-len(read), len(read)-len(sent)) > n {
				t.Fatalf("Errors of %q, %q: %d", sent, read, n)
			}
		}
	})
}

// P2.12
func TestFromTheOtherSide(t *testing.T) {
	eachRandom(400, func(r *rand.Rand) {
		sent, read := randomSigns(r, 20), randomSigns(r, 20)
		if r.Intn(2) == 0 {
			read, _, _ = misread(r, sent, 6)
		}
		m, e := flash.Errors(sent, read)
		n, f := flash.Errors(reversed(sent), reversed(read))
		if m != n || e != f {
			t.Fatalf("Errors of %q, %q: %d, %v, from the other side: %d, %v", sent, read, m, e, n, f)
		}
	})
}

// P2.13
func TestDecided(t *testing.T) {
	var parts [6]int
	eachRandom(400, func(r *rand.Rand) {
		list := randomTexts(r, []int{3, 8, 64}[r.Intn(3)])
		from, many, e := flash.Repeat(list)
		if e != api.OK || !modelDecides(list, from, many) {
			t.Fatalf("Repeat of %v: %d, %d, %v", list, from, many, e)
		}
		for m := 0; m <= many; m++ {
			for f := 0; f < 8 && (m < many || f < from); f++ {
				if modelDecides(list, f, m) {
					t.Fatalf("Repeat of %v: %d, %d, not %d, %d", list, from, many, f, m)
				}
			}
		}
		parts[many]++
	})
	if slices.Contains(parts[:], 0) {
		t.Errorf("parts by their letters: %v", parts)
	}
}

// P2.14
func TestFewerTexts(t *testing.T) {
	eachRandom(400, func(r *rand.Rand) {
		list := randomTexts(r, 20)
		_, all, e := flash.Repeat(list)
		part := some(r, list)
		if _, many, f := flash.Repeat(part); many > all || e != api.OK || f != api.OK {
			t.Fatalf("Repeat of %v: %d letters, of all of %v: %d", part, many, list, all)
		}
	})
}

// P2.15
func TestOrderOfLetters(t *testing.T) {
	eachRandom(100, func(r *rand.Rand) {
		c := randomCode(r, 6)
		read, _, _ := misread(r, signsOf(c, randomText(r, len(c.Letters), 4)), 2)
		errors, letters := r.Intn(4), r.Intn(5)
		number := r.Perm(len(c.Letters))
		other := flash.Code{Letters: make([]string, len(number))}
		for old, now := range number {
			other.Letters[now] = c.Letters[old]
		}
		list, renamed := texts(t, c, read, errors, letters), texts(t, other, read, errors, letters)
		if len(list) != len(renamed) {
			t.Fatalf("Texts by %q: %v, by %q: %v", c.Letters, list, other.Letters, renamed)
		}
		for _, text := range list {
			named := slices.Clone(text)
			for i := range named {
				named[i] = number[named[i]]
			}
			if !hasText(renamed, named) {
				t.Fatalf("Texts by %q: %v, by %q: %v", c.Letters, list, other.Letters, renamed)
			}
		}
	})
}

// P2.16
func TestATextAndItsSigns(t *testing.T) {
	eachRandom(200, func(r *rand.Rand) {
		c := randomCode(r, 6)
		text := randomText(r, len(c.Letters), 5)
		read, e := flash.Send(c, text)
		if list := texts(t, c, read, 0, 5); e != api.OK || !same(list, [][]int{text}) {
			t.Fatalf("Texts by %q of %q: %v, not %v", c.Letters, read, list, text)
		}
	})
}
