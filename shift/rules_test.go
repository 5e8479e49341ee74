package shift_test

import (
	"math"
	"math/rand"
	"reflect"
	"slices"
	"testing"

	"lucifer/api"
	"lucifer/paste"
	"lucifer/shift"
)

// isValid reports whether a book is valid, as the chapter defines it.
func isValid(b api.ShiftBook) bool {
	if len(b.Pastes) < 1 || len(b.Pastes) > 3 || len(b.Workers) > 4 || len(b.Table) < 1 || len(b.Table) > 4 {
		return false
	}
	for _, p := range b.Pastes {
		if is, e := paste.Right(p.Book); !is || e != api.OK || p.Hours < 0 || p.Hours > 40 {
			return false
		}
	}
	for i, r := range b.Table {
		if r.Power < 0 || r.Power > 500 || r.Hours < 0 || r.Hours > 12 || i > 0 && (r.Power <= b.Table[i-1].Power || r.Hours > b.Table[i-1].Hours) {
			return false
		}
	}
	return !slices.ContainsFunc(b.Workers, func(w api.ShiftWorker) bool { return w.Free < 0 || w.Free > 12 })
}

// wantErrors returns of each call the error that it has (none is OK).
func wantErrors(b api.ShiftBook, worker, paste int, plan []api.ShiftTurn) map[string]api.Errno {
	want := map[string]api.Errno{}
	if !isValid(b) {
		for call := range allErrors(b, worker, paste, plan) {
			want[call] = api.ErrShift
		}
		return want
	}
	k := know(b)
	if k.enough() {
		want["Short"] = api.ErrNone
	} else {
		want["Best"], want["Longer"], want["Spared"] = api.ErrNone, api.ErrNone, api.ErrNone
	}
	_, want["Hire"] = k.hire()
	if paste < 0 || paste >= len(b.Pastes) {
		want["Allowed"], want["Longer"] = api.ErrShiftAsk, api.ErrShiftAsk
	}
	if worker < 0 || worker >= len(b.Workers) {
		want["Allowed"] = api.ErrShiftAsk
	}
	return want
}

// disturb changes some numbers and lists of a book, which is no other one's.
func disturb(r *rand.Rand, b *api.ShiftBook, any func() int) {
	numbers := []*int{&b.Pastes[0].Hours, &b.Pastes[0].Book.Need, &b.Pastes[0].Book.Salts[0].Power, &b.Pastes[0].Book.Salts[0].Amount.Low}
	for i := range b.Workers {
		numbers = append(numbers, &b.Workers[i].Free)
	}
	for i := range b.Table {
		numbers = append(numbers, &b.Table[i].Power, &b.Table[i].Hours)
	}
	for _, number := range numbers {
		if r.Intn(2*len(numbers)) == 0 {
			*number = any()
		}
	}
	if r.Intn(10) == 0 {
		b.Pastes = slices.Repeat(b.Pastes, r.Intn(3))
	}
	if r.Intn(10) == 0 {
		b.Workers = slices.Repeat(b.Workers, r.Intn(3))
	}
	if r.Intn(10) == 0 {
		b.Table = append(b.Table, row(any(), any()))
	}
	if r.Intn(10) == 0 {
		b.Table = nil
	}
}

// TestAnyArguments is of P1: no call panics, each error is the one that is named first, and with it all else is zero.
func TestAnyArguments(t *testing.T) {
	numbers := []int{math.MinInt, math.MinInt + 1, -1, 0, 1, 2, 3, 4, 5, 9, 11, 12, 13, 39, 40, 41, 499, 500, 501, math.MaxInt}
	r := rand.New(rand.NewSource(6))
	any := func() int { return numbers[r.Intn(len(numbers))] }
	few := func() int {
		if r.Intn(8) == 0 {
			return any()
		}
		return r.Intn(5) - 1
	}
	valid := map[bool]int{}
	for i := range 2500 {
		b := someBook(r, 1+r.Intn(3), r.Intn(5), 1+r.Intn(12))
		if i%2 == 0 {
			disturb(r, &b, any)
		}
		worker, paste := few(), few()
		var plan []api.ShiftTurn
		for range r.Intn(4) {
			plan = append(plan, api.ShiftTurn{Worker: few(), Paste: few(), Hours: any()})
		}
		valid[isValid(b)]++
		want := wantErrors(b, worker, paste, plan)
		for call, got := range allErrors(b, worker, paste, plan) {
			if e := want[call]; got.e != e || got.e != api.OK && !got.zero {
				t.Fatalf("%s of %v, %d, %d, %v: %v, not %d", call, b, worker, paste, plan, got, e)
			}
		}
	}
	if valid[true] < 500 || valid[false] < 500 {
		t.Errorf("so many books are valid: %v", valid)
	}
}

// everything returns all that the package tells of a book and a plan.
func everything(b api.ShiftBook, plan []api.ShiftTurn) []any {
	var all []any
	both := func(x any, e api.Errno) { all = append(all, x, e) }
	list := func(l []int, e api.Errno) { both(append([]int{}, l...), e) }
	both(nil, shift.Check(b))
	is, e := shift.IsPlan(b, plan)
	both(is, e)
	is, e = shift.Enough(b)
	both(is, e)
	best, e := shift.Best(b)
	both(append([]api.ShiftTurn{}, best...), e)
	l, e := shift.Short(b)
	list(l, e)
	l, e = shift.Spared(b)
	list(l, e)
	n, e := shift.Hire(b)
	both(n, e)
	for p := -1; p <= api.ShiftPastes; p++ {
		n, e := shift.Longer(b, p)
		both(n, e)
		for w := -1; w <= api.ShiftWorkers; w++ {
			n, e := shift.Allowed(b, w, p)
			both(n, e)
		}
	}
	return all
}

// planOf returns a plan of a book, or turns that are none, if there is none.
func planOf(b api.ShiftBook) []api.ShiftTurn {
	if best, e := shift.Best(b); e == api.OK {
		return best
	}
	return turns(0, 0, 4, 0, 1, 6, 1, 0, 2, 1, 1, 3)
}

// TestSameAgain is of P2.
func TestSameAgain(t *testing.T) {
	books := append(someBooks(90), largeBooks(90)...)
	for _, b := range wrongBooks() {
		books = append(books, b)
	}
	var before [][]any
	for _, b := range books {
		before = append(before, everything(b, planOf(b)))
	}
	for i := len(books) - 1; i >= 0; i-- {
		if again := everything(books[i], planOf(books[i])); !reflect.DeepEqual(again, before[i]) {
			t.Errorf("of %v there was %v, and now %v", books[i], before[i], again)
		}
	}
}

// TestNilAndEmpty is of R3.
func TestNilAndEmpty(t *testing.T) {
	full := powered(1, one(1))
	full.Pairs, full.Trials = []api.PastePair{}, []api.PasteTrial{}
	books := map[string][2]api.ShiftBook{
		"pastes":         {withPastes(example()), withPastes(example(), []api.ShiftPaste{}...)},
		"workers":        {withWorkers(example()), withWorkers(example(), []api.ShiftWorker{}...)},
		"nobody needed":  {withWorkers(room(4, 0)), withWorkers(room(4, 0), []api.ShiftWorker{}...)},
		"rows":           {withTable(example()), withTable(example(), []api.ShiftRow{}...)},
		"pairs, trials":  {of(example(), 0, powered(1, one(1))), of(example(), 0, full)},
		"salts of paste": {of(example(), 0, api.PasteBook{Surfaces: full.Surfaces, Need: 1}), of(example(), 0, api.PasteBook{Salts: []api.PasteSalt{}, Surfaces: full.Surfaces, Need: 1})},
	}
	for name, both := range books {
		if reflect.DeepEqual(both[0], both[1]) {
			t.Errorf("%s: these are the same", name)
		}
		for _, plan := range [][]api.ShiftTurn{nil, {}, turns(0, 0, 4)} {
			if a, b := everything(both[0], plan), everything(both[1], plan); !reflect.DeepEqual(a, b) {
				t.Errorf("%s: %v, %v", name, a, b)
			}
		}
	}
	for _, b := range []api.ShiftBook{example(), room(4, 0), {}} {
		if x, y := everything(b, nil), everything(b, []api.ShiftTurn{}); !reflect.DeepEqual(x, y) {
			t.Errorf("%v, %v", x, y)
		}
	}
}

// spare returns a copy of the list that has room behind its end, in which there is something.
func spare[T any](list []T, filler T) []T {
	c := append(slices.Clone(list), filler, filler, filler)
	return c[:len(list)]
}

// kept reports whether a list is as it was given, and has the filler behind its end.
func kept[T any](list, given []T, filler T) bool {
	// As many of both, for nil and an empty list are the same here.
	return len(list) == len(given) && reflect.DeepEqual(list[:len(given)+3], append(slices.Clone(given), filler, filler, filler))
}

// sparePaste returns a copy of a paste, all of whose lists have room behind their ends.
func sparePaste(b api.PasteBook) api.PasteBook {
	b.Salts = spare(b.Salts, api.PasteSalt{Power: 7})
	b.Pairs = spare(b.Pairs, api.PastePair{One: 7})
	b.Surfaces = spare(b.Surfaces, api.PasteSurface{Rub: one(7)})
	b.Trials = spare(b.Trials, not(7))
	return b
}

func keptPaste(b, given api.PasteBook) bool {
	return kept(b.Salts, given.Salts, api.PasteSalt{Power: 7}) && kept(b.Pairs, given.Pairs, api.PastePair{One: 7}) &&
		kept(b.Surfaces, given.Surfaces, api.PasteSurface{Rub: one(7)}) && kept(b.Trials, given.Trials, not(7))
}

// TestOnlyRead is of P7.8: arguments are not changed, not even behind their ends.
func TestOnlyRead(t *testing.T) {
	p, w, s := api.ShiftPaste{Hours: 7}, worker(7, true), api.ShiftTurn{Hours: 7}
	for _, given := range slices.Concat(someBooks(100), largeBooks(100), []api.ShiftBook{example(), needing(example(), 0, 10)}) {
		plan := planOf(given)
		b, turns := given, spare(plan, s)
		b.Pastes = slices.Clone(given.Pastes)
		for i := range b.Pastes {
			b.Pastes[i].Book = sparePaste(b.Pastes[i].Book)
		}
		pastes := slices.Clone(b.Pastes)
		b.Pastes, b.Workers, b.Table = spare(b.Pastes, p), spare(b.Workers, w), spare(b.Table, row(7, 7))
		everything(b, turns)
		is := kept(b.Pastes, pastes, p) && kept(b.Workers, given.Workers, w) && kept(b.Table, given.Table, row(7, 7)) && kept(turns, plan, s)
		for i := range b.Pastes {
			is = is && keptPaste(b.Pastes[i].Book, given.Pastes[i].Book)
		}
		if !is {
			t.Fatalf("%v, %v has become %v, %v", given, plan, b, turns)
		}
	}
}

// scratch overwrites a list, and what is behind its end.
func scratch[T any](list []T, filler T) {
	for i := range list {
		list[i] = filler
	}
	_ = append(list, filler)
}

// TestNewMemory is of P7.8: results share nothing with arguments, nor with each other.
func TestNewMemory(t *testing.T) {
	b, long := example(), needing(needing(example(), 0, 8), 1, 12)
	for name, call := range map[string]func() []int{
		"Short":  func() []int { l, _ := shift.Short(long); return l },
		"Spared": func() []int { l, _ := shift.Spared(b); return l },
	} {
		first, second := call(), call()
		want := slices.Clone(first)
		if len(want) == 0 {
			t.Fatalf("%s: nothing", name)
		}
		scratch(first, -1)
		if third := call(); !slices.Equal(second, want) || !slices.Equal(third, want) {
			t.Errorf("%s: %v, %v", name, second, third)
		}
	}
	want := turns(0, 0, 4, 0, 1, 6, 1, 0, 2, 1, 1, 3)
	first, _ := shift.Best(b)
	second, _ := shift.Best(b)
	scratch(first, api.ShiftTurn{Worker: 7})
	if third, _ := shift.Best(b); !slices.Equal(second, want) || !slices.Equal(third, want) {
		t.Errorf("Best: %v, %v", second, third)
	}
	if !reflect.DeepEqual(b, example()) {
		t.Errorf("the book has become %v", b)
	}
	b.Pastes[0].Hours, b.Workers[0].Free, b.Table[0].Hours = 3, 8, 6
	if changed, e := shift.Best(b); !slices.Equal(second, want) || slices.Equal(changed, want) || e != api.OK {
		t.Errorf("Best: %v, and after a change %v, %d", second, changed, e)
	}
}
