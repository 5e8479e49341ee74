package paste_test

import (
	"math"
	"math/rand"
	"reflect"
	"slices"
	"testing"

	"lucifer/api"
	"lucifer/paste"
)

// TestAnyArguments is of P1: no call panics, each error is the one that is named first, and with it all else is zero.
func TestAnyArguments(t *testing.T) {
	numbers := []int{math.MinInt, -1, 0, 1, 2, 3, 4, 9, 10, 30, 31, 200, 201, 400, 401, math.MaxInt}
	r := rand.New(rand.NewSource(2))
	any := func() int { return numbers[r.Intn(len(numbers))] }
	for i := range 5000 {
		b := api.PasteBook{Need: any()}
		for range r.Intn(6) {
			b.Salts = append(b.Salts, salt(any(), to(any(), any())))
			b.Pairs = append(b.Pairs, pair(any(), any(), any()))
			b.Surfaces = append(b.Surfaces, surface(to(any(), any()), to(any(), any())))
			b.Trials = append(b.Trials, api.PasteTrial{Surface: any(), Lit: r.Intn(2) == 0})
		}
		if i%10 == 0 {
			b, _ = rubbed(r, someBook(r, small), small.trials, r.Intn(2) == 0)
		}
		surface, salt := any(), any()
		want := wantErrors(b, surface, salt)
		for call, got := range allErrors(b, surface, salt) {
			if e := want[call]; got.e != e || got.e != api.OK && !got.zero {
				t.Fatalf("%s of %v, %d, %d: %v, not %d", call, b, surface, salt, got, e)
			}
		}
	}
}

// wantErrors returns of each call the error that it has (none is OK).
func wantErrors(b api.PasteBook, surface, salt int) map[string]api.Errno {
	want := map[string]api.Errno{}
	if paste.Check(b) != api.OK {
		for call := range allErrors(b, surface, salt) {
			want[call] = api.ErrPaste
		}
		return want
	}
	truths := truthsOf(b)
	if len(truths) == 0 {
		for _, call := range []string{"Power", "Lights", "Safe", "Next"} {
			want[call] = api.ErrPasteFalse
		}
	} else {
		_, want["Next"] = nextOf(b)
	}
	if surface < 0 || surface >= len(b.Surfaces) {
		want["Lights"], want["Blame"] = api.ErrPasteAsk, api.ErrPasteAsk
	} else {
		_, want["Blame"] = blameOf(b, surface)
	}
	if salt < 0 || salt >= len(b.Salts) {
		want["Less"] = api.ErrPasteAsk
	} else {
		_, want["Less"] = lessOf(b, salt)
	}
	if !slices.Contains(dampersOf(b), true) {
		want["Damper"] = api.ErrNone
	}
	return want
}

// everything returns all that the package tells of a book.
func everything(b api.PasteBook) []any {
	var all []any
	both := func(x any, e api.Errno) { all = append(all, x, e) }
	both(nil, paste.Check(b))
	is, e := paste.Right(b)
	both(is, e)
	s, e := paste.Power(b)
	both(s, e)
	is, e = paste.Safe(b)
	both(is, e)
	for i := range 6 {
		n, e := paste.Lights(b, i-1)
		both(n, e)
		l, e := paste.Blame(b, i-1)
		both(append([]int{}, l...), e)
		n, e = paste.Less(b, i-1)
		both(n, e)
	}
	s, e = paste.Damper(b)
	both(s, e)
	l, e := paste.Wrong(b)
	both(append([]int{}, l...), e)
	n, e := paste.Next(b)
	both(n, e)
	return all
}

// TestSameAgain is of P2.
func TestSameAgain(t *testing.T) {
	books := someBooks(60)
	for _, b := range wrongBooks() {
		books = append(books, b)
	}
	var before [][]any
	for _, b := range books {
		before = append(before, everything(b))
	}
	for i := len(books) - 1; i >= 0; i-- {
		if again := everything(books[i]); !reflect.DeepEqual(again, before[i]) {
			t.Errorf("of %v there was %v, and now %v", books[i], before[i], again)
		}
	}
}

// TestNilAndEmpty is of R3.
func TestNilAndEmpty(t *testing.T) {
	none := withPairs(example())
	none.Pairs, none.Trials = nil, nil
	empty := none
	empty.Pairs, empty.Trials = []api.PastePair{}, []api.PasteTrial{}
	if a, b := everything(none), everything(empty); !reflect.DeepEqual(a, b) {
		t.Errorf("%v, %v", a, b)
	}
	for _, b := range []api.PasteBook{{Salts: []api.PasteSalt{}, Surfaces: make([]api.PasteSurface, 1), Need: 1}, {Salts: make([]api.PasteSalt, 1), Surfaces: []api.PasteSurface{}, Need: 1}} {
		if e := paste.Check(b); e != api.ErrPaste {
			t.Errorf("%v: %d", b, e)
		}
	}
}

// spare returns a copy of the list that has room behind its end, in which there is something.
func spare[T any](list []T, filler T) []T {
	c := append(slices.Clone(list), filler, filler, filler)
	return c[:len(list)]
}

// kept reports whether a list is as it was given, and has the filler behind its end.
func kept[T comparable](list, given []T, filler T) bool {
	n := len(given)
	return slices.Equal(list, given) && slices.Equal(list[n:n+3], []T{filler, filler, filler})
}

// TestOnlyRead is of P2.9: arguments are not changed, not even behind their ends.
func TestOnlyRead(t *testing.T) {
	fillSalt, fillPair, fillSurface, fillTrial := salt(77, one(77)), pair(7, 7, 7), surface(one(77), one(77)), lit(77)
	for _, given := range append(someBooks(200), example(), plain(lit(2))) {
		b := api.PasteBook{Salts: spare(given.Salts, fillSalt), Pairs: spare(given.Pairs, fillPair), Surfaces: spare(given.Surfaces, fillSurface), Need: given.Need, Trials: spare(given.Trials, fillTrial)}
		everything(b)
		if !kept(b.Salts, given.Salts, fillSalt) || !kept(b.Pairs, given.Pairs, fillPair) || !kept(b.Surfaces, given.Surfaces, fillSurface) || !kept(b.Trials, given.Trials, fillTrial) {
			t.Fatalf("%v has become %v", given, b)
		}
	}
}

// TestNewMemory is of P2.9: results share nothing with each other, and keep nothing of an argument.
func TestNewMemory(t *testing.T) {
	b := example(lit(1), not(2), not(0))
	for name, call := range map[string]func() []int{
		"Blame": func() []int { l, _ := paste.Blame(b, 1); return l },
		"Wrong": func() []int { l, _ := paste.Wrong(b); return l },
	} {
		first, second := call(), call()
		want := slices.Clone(first)
		if len(want) == 0 {
			t.Fatalf("%s: nothing", name)
		}
		for i := range first {
			first[i] = -1
		}
		_ = append(first, -1)
		if third := call(); !slices.Equal(second, want) || !slices.Equal(third, want) {
			t.Errorf("%s: %v, %v", name, second, third)
		}
	}
	if !reflect.DeepEqual(b, example(lit(1), not(2), not(0))) {
		t.Errorf("the book has become %v", b)
	}
	wrong, _ := paste.Wrong(b)
	b.Trials[0], b.Trials[2], b.Salts[0].Power = not(1), lit(0), 0
	if after, _ := paste.Wrong(b); !slices.Equal(wrong, []int{0, 2}) || slices.Equal(after, wrong) {
		t.Errorf("Wrong: %v, and after a change %v", wrong, after)
	}
}
