package home_test

import (
	"math"
	"math/rand"
	"reflect"
	"slices"
	"testing"

	"lucifer/api"
	"lucifer/fold"
	"lucifer/home"
)

// isValid reports whether a book is valid, as the chapter defines it.
func isValid(b api.HomeBook) bool {
	in := func(n, low, high int) bool { return n >= low && n <= high }
	// The ends are looked at alone before they are compared, for they might be too far apart for an int.
	span := func(s api.Span) bool {
		return in(s.Low, 0, 600) && in(s.High, 0, 600) && s.Low <= s.High && s.High-s.Low <= 10
	}
	if fold.Check(b.Sheet) != api.OK || !in(b.Gross, 1, 144) || !in(b.Pay, 0, 999) || !in(b.Fine, 0, 99) || len(b.Workers) > 4 {
		return false
	}
	for _, w := range b.Workers {
		sorted := slices.Sorted(slices.Values(w.Order))
		for place := range sorted {
			if sorted[place] != place {
				return false
			}
		}
		if len(sorted) != len(b.Sheet.Flaps) || !in(w.Sheets, 0, 600) || !span(w.Back) || !span(w.Torn) {
			return false
		}
	}
	return true
}

// wantErrors returns of each call the error that it has (none is OK).
func wantErrors(b api.HomeBook, worker int) map[string]api.Errno {
	want := map[string]api.Errno{}
	if !isValid(b) {
		for call := range allErrors(b, worker) {
			want[call] = api.ErrHome
		}
		return want
	}
	var alone, all api.Errno
	if len(untruths(b)) > 0 {
		all = api.ErrHomeFalse
	}
	switch {
	case worker < 0 || worker >= len(b.Workers):
		alone, want["Right"] = api.ErrHomeAsk, api.ErrHomeAsk
	case slices.Contains(untruths(b), worker):
		alone = api.ErrHomeFalse
	}
	want["Passes"], want["Missing"], want["Gets"] = alone, alone, alone
	want["Total"], want["Grosses"] = all, all
	_, want["Teach"] = teachOf(b)
	_, want["Ask"] = askOf(b)
	return want
}

// disturb changes some numbers and lists of a book, which is no other one's.
func disturb(r *rand.Rand, b *api.HomeBook, any func() int) {
	numbers := []*int{&b.Gross, &b.Pay, &b.Fine, &b.Sheet.Wide, &b.Sheet.Flaps[0].Reach.High}
	for i := range b.Workers {
		w := &b.Workers[i]
		numbers = append(numbers, &w.Sheets, &w.Back.Low, &w.Back.High, &w.Torn.Low, &w.Torn.High, &w.Order[r.Intn(len(w.Order))])
	}
	for _, number := range numbers {
		if r.Intn(len(numbers)) == 0 {
			*number = any()
		}
	}
	if r.Intn(10) == 0 {
		b.Workers = slices.Repeat(b.Workers, 1+r.Intn(3))
	}
	if n := len(b.Workers); n > 0 && r.Intn(10) == 0 {
		w := &b.Workers[r.Intn(n)]
		w.Order = append(w.Order, any())[r.Intn(2):]
	}
}

// TestAnyArguments is of P1: no call panics, each error is the one that is named first, and with it all else is zero.
func TestAnyArguments(t *testing.T) {
	numbers := []int{math.MinInt, math.MinInt + 1, -1, 0, 1, 2, 3, 4, 5, 10, 11, 60, 99, 100, 144, 145, 590, 599, 600, 601, 999, 1000, math.MaxInt - 1, math.MaxInt}
	r := rand.New(rand.NewSource(6))
	any := func() int { return numbers[r.Intn(len(numbers))] }
	valid := map[bool]int{}
	for i := range 3000 {
		b, worker := someBook(r, 2+r.Intn(20)), any()
		if r.Intn(2) == 0 {
			worker = r.Intn(6) - 1
		}
		if i%2 == 0 {
			for j := range b.Workers {
				b.Workers[j].Order = slices.Clone(b.Workers[j].Order)
			}
			disturb(r, &b, any)
		}
		valid[isValid(b)]++
		want := wantErrors(b, worker)
		for call, got := range allErrors(b, worker) {
			if e := want[call]; got.e != e || got.e != api.OK && !got.zero {
				t.Fatalf("%s of %v, %d: %v, not %d", call, b, worker, got, e)
			}
		}
	}
	if valid[true] < 1000 || valid[false] < 500 {
		t.Errorf("so many books are valid: %v", valid)
	}
}

// everything returns all that the package tells of a book.
func everything(b api.HomeBook) []any {
	var all []any
	both := func(x any, e api.Errno) { all = append(all, x, e) }
	span := func(s api.Span, e api.Errno) { both(s, e) }
	number := func(n int, e api.Errno) { both(n, e) }
	both(nil, home.Check(b))
	span(home.Total(b))
	span(home.Grosses(b))
	l, e := home.Wrong(b)
	both(append([]int{}, l...), e)
	number(home.Teach(b))
	number(home.Ask(b))
	for worker := range min(len(b.Workers), 5) + 2 {
		is, e := home.Right(b, worker-1)
		both(is, e)
		span(home.Passes(b, worker-1))
		span(home.Missing(b, worker-1))
		span(home.Gets(b, worker-1))
	}
	return all
}

// TestSameAgain is of P2.
func TestSameAgain(t *testing.T) {
	books := append(someBooks(100), largeBooks(30)...)
	for _, b := range wrongBooks() {
		books = append(books, b)
	}
	var before [][]any
	for _, b := range books {
		before = append(before, everything(b))
	}
	for i := len(books) - 1; i >= 0; i-- {
		if again := everything(books[i]); !reflect.DeepEqual(again, before[i]) {
			t.Errorf("of %v there was %v, and now %v", books[i], before[i], again)
		}
	}
}

// TestNilAndEmpty is of R3.
func TestNilAndEmpty(t *testing.T) {
	alone := api.FoldSheet{Wide: 1, High: 1, Flaps: piled(1).Flaps}
	free := alone
	free.Rules = []api.FoldRule{}
	flat := alone
	flat.Flaps = nil
	flatter := alone
	flatter.Flaps = []api.FoldFlap{}
	books := map[string][2]api.HomeBook{
		"workers":  {of(), of([]api.HomeWorker{}...)},
		"rules":    {withSheet(folding(2), alone), withSheet(folding(2), free)},
		"flaps":    {withSheet(folding(2), flat), withSheet(folding(2), flatter)},
		"an order": {of(in(first())), of(in(first(), []int{}...))},
	}
	for name, pair := range books {
		if name == "workers" {
			pair[1].Workers = []api.HomeWorker{}
		}
		if name == "an order" {
			pair[1].Workers[0].Order = []int{}
		}
		if reflect.DeepEqual(pair[0], pair[1]) {
			t.Errorf("%s: these are the same", name)
		}
		if a, b := everything(pair[0]), everything(pair[1]); !reflect.DeepEqual(a, b) {
			t.Errorf("%s: %v, %v", name, a, b)
		}
	}
}

// spare returns a copy of the list that has room behind its end, in which there is something.
func spare[T any](list []T, filler T) []T {
	c := append(slices.Clone(list), filler, filler, filler)
	return c[:len(list)]
}

// kept reports whether a list is as it was given, and has the filler behind its end.
func kept[T any](list, given []T, filler T) bool {
	// As many of both, for nil and an empty list are the same here.
	return len(list) == len(given) && reflect.DeepEqual(list[:len(given)+3], append(slices.Clone(given), filler, filler, filler))
}

// TestOnlyRead is of P9.6: arguments are not changed, not even behind their ends.
func TestOnlyRead(t *testing.T) {
	flap, rule, other := api.FoldFlap{Side: 7}, api.FoldRule{Over: 7}, worker(77, one(77), one(77))
	for _, given := range slices.Concat(someBooks(200), largeBooks(50), []api.HomeBook{example(), loose(), untrue()}) {
		b := given
		b.Sheet.Flaps, b.Sheet.Rules = spare(given.Sheet.Flaps, flap), spare(given.Sheet.Rules, rule)
		b.Workers = spare(given.Workers, other)
		for i, w := range given.Workers {
			b.Workers[i].Order = spare(w.Order, 77)
		}
		everything(b)
		is := kept(b.Sheet.Flaps, given.Sheet.Flaps, flap) && kept(b.Sheet.Rules, given.Sheet.Rules, rule) && kept(b.Workers, given.Workers, other)
		for i, w := range given.Workers {
			is = is && kept(b.Workers[i].Order, w.Order, 77)
		}
		if !is {
			t.Fatalf("%v has become %v", given, b)
		}
	}
}

// TestNewMemory is of P9.6: results share nothing with arguments, nor with each other.
func TestNewMemory(t *testing.T) {
	book := func() api.HomeBook {
		false0 := worker(1, one(2), one(0), 0, 1, 2, 3)
		return of(first(), false0, second(), false0)
	}
	b, want := book(), []int{1, 3}
	one, _ := home.Wrong(b)
	other, _ := home.Wrong(b)
	one[0], one[1] = -1, -1
	_ = append(one, -1)
	third, e := home.Wrong(b)
	if !slices.Equal(other, want) || !slices.Equal(third, want) || e != api.OK || !reflect.DeepEqual(b, book()) {
		t.Errorf("Wrong: %v, %v, %d of %v", other, third, e, b)
	}
	b.Workers[3].Sheets = 2
	if changed, e := home.Wrong(b); !slices.Equal(other, want) || !slices.Equal(changed, want[:1]) || e != api.OK {
		t.Errorf("Wrong: %v, and after a change %v, %d", other, changed, e)
	}
}
