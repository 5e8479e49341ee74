package band_test

import (
	"math"
	"math/rand"
	"reflect"
	"slices"
	"testing"

	"lucifer/api"
	"lucifer/band"
	"lucifer/fill"
)

// isValid reports whether a book is valid, as the chapter defines it.
func isValid(b api.BandBook) bool {
	if len(b.Rolls) < 1 || len(b.Rolls) > 3 || len(b.Notes) > 8 {
		return false
	}
	for i, r := range b.Rolls {
		// First and Many are looked at alone before their sum, which might be too large for an int.
		if r.First < 1 || r.First > 9999 || r.Many < 1 || r.Many > 20 || r.First+r.Many-1 > 9999 {
			return false
		}
		if i > 0 && r.First < b.Rolls[i-1].First+b.Rolls[i-1].Many {
			return false
		}
	}
	for _, n := range b.Notes {
		if n.Kind < 0 || n.Kind > 2 || n.From < 1 || n.To > 9999 || n.From > n.To || n.To >= n.From+30 {
			return false
		}
	}
	is, e := fill.IsPlan(b.Fill, b.Plan)
	return is && e == api.OK && fill.Check(b.Fill) == api.OK
}

// wantErrors returns of each call the error that it has (none is OK).
func wantErrors(b api.BandBook, number, rate int) map[string]api.Errno {
	want := map[string]api.Errno{}
	if !isValid(b) {
		for call := range allErrors(b, number, rate) {
			want[call] = api.ErrBand
		}
		return want
	}
	k := know(b)
	_, _, want["Clash"] = k.clash()
	_, want["Wrong"] = k.wrong()
	if !k.allTotals().right() {
		want["Missing"], want["What"], want["Due"] = api.ErrBandFalse, api.ErrBandFalse, api.ErrBandFalse
	}
	if !slices.Contains(k.bands, number) {
		want["What"] = api.ErrBandAsk
	}
	if rate < 0 || rate > 1000 {
		want["Due"] = api.ErrBandAsk
	}
	return want
}

// disturb changes some numbers and lists of a book, which is no other one's.
func disturb(r *rand.Rand, b *api.BandBook, any func() int) {
	numbers := []*int{&b.Fill.Promise, &b.Fill.Group}
	for i := range b.Rolls {
		numbers = append(numbers, &b.Rolls[i].First, &b.Rolls[i].Many)
	}
	for i := range b.Notes {
		numbers = append(numbers, &b.Notes[i].Kind, &b.Notes[i].From, &b.Notes[i].To)
	}
	for i := range b.Plan {
		numbers = append(numbers, &b.Plan[i])
	}
	for _, number := range numbers {
		if r.Intn(len(numbers)) == 0 {
			*number = any()
		}
	}
	if r.Intn(10) == 0 {
		b.Rolls = slices.Repeat(b.Rolls, r.Intn(3))
	}
	if r.Intn(10) == 0 {
		b.Notes = slices.Repeat(b.Notes, r.Intn(4))
	}
	if r.Intn(10) == 0 {
		b.Notes = append(b.Notes, note(r.Intn(4), any(), any()))
	}
	if r.Intn(10) == 0 {
		b.Plan = append(b.Plan, any())
	}
}

// TestAnyArguments is of P1: no call panics, each error is the one that is named first, and with it all else is zero.
func TestAnyArguments(t *testing.T) {
	numbers := []int{math.MinInt, math.MinInt + 1, -1, 0, 1, 2, 3, 4, 5, 19, 20, 21, 29, 30, 31, 100, 101, 999, 1000, 1001, 9970, 9980, 9998, 9999, 10000, math.MaxInt - 1, math.MaxInt}
	r := rand.New(rand.NewSource(7))
	any := func() int { return numbers[r.Intn(len(numbers))] }
	valid := map[bool]int{}
	for i := range 3000 {
		b := someBook(r, 1+r.Intn(20), 4, 5)
		number, rate := any(), any()
		if r.Intn(2) == 0 {
			number = b.Rolls[0].First + r.Intn(b.Rolls[0].Many+2) - 1
		}
		if i%2 == 0 {
			b.Fill.Hands, b.Plan = slices.Clone(b.Fill.Hands), slices.Clone(b.Plan)
			disturb(r, &b, any)
		}
		valid[isValid(b)]++
		want := wantErrors(b, number, rate)
		for call, got := range allErrors(b, number, rate) {
			if e := want[call]; got.e != e || got.e != api.OK && !got.zero {
				t.Fatalf("%s of %v, %d, %d: %v, not %d", call, b, number, rate, got, e)
			}
		}
	}
	if valid[true] < 1000 || valid[false] < 500 {
		t.Errorf("so many books are valid: %v", valid)
	}
}

// everything returns all that the package tells of a book.
func everything(b api.BandBook) []any {
	var all []any
	both := func(x any, e api.Errno) { all = append(all, x, e) }
	list := func(l []int, e api.Errno) { both(append([]int{}, l...), e) }
	both(nil, band.Check(b))
	s, e := band.Used(b)
	both(s, e)
	is, e := band.Right(b)
	both(is, e)
	l, e := band.Strange(b)
	list(l, e)
	first, next, e := band.Clash(b)
	both([]int{first, next}, e)
	s, e = band.Missing(b)
	both(s, e)
	gaps, e := band.Gaps(b)
	both(append([]api.BandRoll{}, gaps...), e)
	l, e = band.Wrong(b)
	list(l, e)
	for _, rate := range []int{-1, 0, 10, 1000, 1001} {
		s, e := band.Due(b, rate)
		both(s, e)
	}
	for _, r := range b.Rolls[:min(len(b.Rolls), 3)] {
		for number := range min(max(r.Many, 0), 20) + 2 {
			n, e := band.What(b, r.First+number-1)
			both(n, e)
		}
	}
	return all
}

// TestSameAgain is of P2.
func TestSameAgain(t *testing.T) {
	books := slices.Concat(someBooks(90), largeBooks(90), disputedBooks(90))
	for _, b := range wrongBooks() {
		books = append(books, b)
	}
	var before [][]any
	for _, b := range books {
		before = append(before, everything(b))
	}
	for i := len(books) - 1; i >= 0; i-- {
		if again := everything(books[i]); !reflect.DeepEqual(again, before[i]) {
			t.Errorf("of %v there was %v, and now %v", books[i], before[i], again)
		}
	}
}

// TestNilAndEmpty is of R3.
func TestNilAndEmpty(t *testing.T) {
	unfilled := closed(0, 0, rolls(roll(1, 5)), used(1, 1))
	full := filling(unfilled, func(f *api.FillBook) { f.Hands = []api.Span{} })
	books := map[string][2]api.BandBook{
		"rolls":               {withRolls(example()), withRolls(example(), []api.BandRoll{}...)},
		"notes":               {withNotes(example()), withNotes(example(), []api.BandNote{}...)},
		"handfuls":            {unfilled, full},
		"a plan of no boxes":  {withPlan(unfilled), withPlan(unfilled, []int{}...)},
		"a plan that is none": {withPlan(example()), withPlan(example(), []int{}...)},
	}
	for name, both := range books {
		both[1].Rolls, both[1].Notes, both[1].Plan = append([]api.BandRoll{}, both[1].Rolls...), append([]api.BandNote{}, both[1].Notes...), append([]int{}, both[1].Plan...)
		if reflect.DeepEqual(both[0], both[1]) {
			t.Errorf("%s: these are the same", name)
		}
		if a, b := everything(both[0]), everything(both[1]); !reflect.DeepEqual(a, b) {
			t.Errorf("%s: %v, %v", name, a, b)
		}
	}
}

// spare returns a copy of the list that has room behind its end, in which there is something.
func spare[T any](list []T, filler T) []T {
	c := append(slices.Clone(list), filler, filler, filler)
	return c[:len(list)]
}

// kept reports whether a list is as it was given, and has the filler behind its end.
func kept[T any](list, given []T, filler T) bool {
	// As many of both, for nil and an empty list are the same here.
	return len(list) == len(given) && reflect.DeepEqual(list[:len(given)+3], append(slices.Clone(given), filler, filler, filler))
}

// TestOnlyRead is of P8.8: arguments are not changed, not even behind their ends.
func TestOnlyRead(t *testing.T) {
	x, n := roll(77, 7), used(77, 78)
	for _, given := range slices.Concat(someBooks(200), largeBooks(100), disputedBooks(200), []api.BandBook{example(), torn()}) {
		b := given
		b.Rolls, b.Notes, b.Plan, b.Fill.Hands = spare(given.Rolls, x), spare(given.Notes, n), spare(given.Plan, 77), spare(given.Fill.Hands, one(77))
		everything(b)
		if !kept(b.Rolls, given.Rolls, x) || !kept(b.Notes, given.Notes, n) || !kept(b.Plan, given.Plan, 77) || !kept(b.Fill.Hands, given.Fill.Hands, one(77)) {
			t.Fatalf("%v has become %v", given, b)
		}
	}
}

// newMemory fails if a list that a call returns is not new memory each time.
func newMemory[T comparable](t *testing.T, name string, filler T, call func() []T) {
	t.Helper()
	first, second := call(), call()
	want := slices.Clone(first)
	if len(want) == 0 {
		t.Fatalf("%s: nothing", name)
	}
	for i := range first {
		first[i] = filler
	}
	_ = append(first, filler)
	if third := call(); !slices.Equal(second, want) || !slices.Equal(third, want) {
		t.Errorf("%s: %v, %v", name, second, third)
	}
}

// TestNewMemory is of P8.8: results share nothing with arguments, nor with each other.
func TestNewMemory(t *testing.T) {
	b := example(used(206, 207), left(103, 103), left(103, 104))
	given := example(used(206, 207), left(103, 103), left(103, 104))
	free := withNotes(b)
	newMemory(t, "Strange", -1, func() []int { l, _ := band.Strange(b); return l })
	newMemory(t, "Wrong", -1, func() []int { l, _ := band.Wrong(b); return l })
	newMemory(t, "Gaps", roll(7, 7), func() []api.BandRoll { l, _ := band.Gaps(b); return l })
	newMemory(t, "Gaps that are the rolls", roll(7, 7), func() []api.BandRoll { l, _ := band.Gaps(free); return l })
	if !reflect.DeepEqual(b, given) {
		t.Errorf("the book has become %v", b)
	}
	wrong, _ := band.Wrong(b)
	gaps, _ := band.Gaps(free)
	b.Notes[3], b.Notes[5], b.Rolls[0].Many = used(105, 105), left(106, 106), 1
	if changed, e := band.Wrong(b); !slices.Equal(wrong, []int{3, 5}) || slices.Equal(changed, wrong) || e != api.OK {
		t.Errorf("Wrong: %v, and after a change %v, %d", wrong, changed, e)
	}
	if !slices.Equal(gaps, given.Rolls) {
		t.Errorf("Gaps: %v", gaps)
	}
}
