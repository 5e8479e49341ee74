package fill_test

import (
	"math"
	"math/rand"
	"reflect"
	"slices"
	"testing"

	"lucifer/api"
	"lucifer/fill"
)

// isValid reports whether a book is valid, as the chapter defines it.
func isValid(b api.FillBook) bool {
	if b.Promise < 1 || b.Promise > 500 || b.Less < 0 || b.Less > 50 || b.Less >= b.Promise || b.More < 0 || b.More > 50 {
		return false
	}
	for _, h := range b.Hands {
		if h.Low < 0 || h.High > 200 || h.Low > h.High || h.High-h.Low > 10 {
			return false
		}
	}
	return b.Group >= 1 && b.Group <= 4 && len(b.Hands) <= 8
}

// TestAnyArguments is of P1: no call panics, each error is the one that is named first, and with it all else is zero.
func TestAnyArguments(t *testing.T) {
	numbers := []int{math.MinInt, math.MinInt + 1, -1, 0, 1, 2, 3, 4, 5, 7, 8, 9, 10, 11, 49, 50, 51, 190, 200, 201, 500, 501, math.MaxInt}
	small := []int{-1, 0, 1, 2, 3, 4, 5, 6, 7, 8, 9}
	r := rand.New(rand.NewSource(8))
	any := func() int { return numbers[r.Intn(len(numbers))] }
	near := func() int {
		if r.Intn(4) == 0 {
			return any()
		}
		return small[r.Intn(len(small))]
	}
	valid := map[bool]int{}
	for i := range 8000 {
		b := label(any(), any(), any(), any())
		for range r.Intn(10) {
			b.Hands = append(b.Hands, to(any(), any()))
		}
		if i%2 == 0 {
			b = someBook(r, r.Intn(6), 2)
		}
		if i%8 == 0 {
			for _, number := range []*int{&b.Promise, &b.Less, &b.More, &b.Group} {
				if r.Intn(3) == 0 {
					*number = any()
				}
			}
		}
		from, end, n := near(), near(), near()
		var plan []int
		for range r.Intn(8) {
			plan = append(plan, near())
		}
		if i%4 == 0 && isValid(b) {
			plan = somePlan(r, b)
		}
		valid[isValid(b)]++
		want := wantErrors(b, from, end, n, plan)
		for call, got := range allErrors(b, from, end, n, plan) {
			if e := want[call]; got.e != e || got.e != api.OK && !got.zero {
				t.Fatalf("%s of %v, %d, %d, %d, %v: %v, not %d", call, b, from, end, n, plan, got, e)
			}
		}
	}
	if valid[true] < 1000 || valid[false] < 1000 {
		t.Errorf("so many books are valid: %v", valid)
	}
}

// wantErrors returns of each call the error that it has (none is OK).
func wantErrors(b api.FillBook, from, end, many int, plan []int) map[string]api.Errno {
	want := map[string]api.Errno{}
	if !isValid(b) {
		for call := range allErrors(b, from, end, many, plan) {
			want[call] = api.ErrFill
		}
		return want
	}
	asked := func(is bool, calls ...string) {
		for _, call := range calls {
			if !is {
				want[call] = api.ErrFillAsk
			}
		}
	}
	some := from >= 0 && from <= end && end <= len(b.Hands)
	asked(some, "Sum")
	asked(some && from < end && end-from <= b.Group, "Kind")
	asked(many >= 1 && many <= len(b.Hands), "Any")
	asked(slices.ContainsFunc(allPlans(b), func(p []int) bool { return slices.Equal(p, plan) }), "ByHand", "Over")
	if len(b.Hands) == 0 {
		want["Ask"] = api.ErrNone
	}
	return want
}

// everything returns all that the package tells of a book and a plan.
func everything(b api.FillBook, plan []int) []any {
	var all []any
	both := func(x any, e api.Errno) { all = append(all, x, e) }
	list := func(l []int, e api.Errno) { both(append([]int{}, l...), e) }
	both(nil, fill.Check(b))
	for from := -1; from <= len(b.Hands)+1; from++ {
		is, e := fill.Any(b, from)
		both(is, e)
		for end := -1; end <= len(b.Hands)+1; end++ {
			s, e := fill.Sum(b, from, end)
			both(s, e)
			n, e := fill.Kind(b, from, end)
			both(n, e)
		}
	}
	is, e := fill.IsPlan(b, plan)
	both(is, e)
	l, e := fill.ByHand(b, plan)
	list(l, e)
	s, e := fill.Over(b, plan)
	both(s, e)
	l, e = fill.Best(b)
	list(l, e)
	n, e := fill.Boxes(b)
	both(n, e)
	n, e = fill.Ask(b)
	both(n, e)
	return all
}

// planOf returns a plan that a valid book has.
func planOf(b api.FillBook) []int {
	var plan []int
	for i := range b.Hands {
		plan = append(plan, i+1)
	}
	return plan
}

// TestSameAgain is of P2.
func TestSameAgain(t *testing.T) {
	books := someBooks(90, api.FillHands, 3)
	for _, b := range wrongBooks() {
		books = append(books, b)
	}
	var before [][]any
	for _, b := range books {
		before = append(before, everything(b, planOf(b)))
	}
	for i := len(books) - 1; i >= 0; i-- {
		if again := everything(books[i], planOf(books[i])); !reflect.DeepEqual(again, before[i]) {
			t.Errorf("of %v there was %v, and now %v", books[i], before[i], again)
		}
	}
}

// TestNilAndEmpty is of R3.
func TestNilAndEmpty(t *testing.T) {
	none, empty := example(), example()
	none.Hands, empty.Hands = nil, []api.Span{}
	for _, plan := range [][]int{nil, {}, {0}, {7}} {
		if a, b := everything(none, plan), everything(empty, plan); !reflect.DeepEqual(a, b) {
			t.Errorf("%v, %v", a, b)
		}
	}
	for _, b := range []api.FillBook{none, empty, example()} {
		if a, b := everything(b, nil), everything(b, []int{}); !reflect.DeepEqual(a, b) {
			t.Errorf("%v, %v", a, b)
		}
	}
}

// spare returns a copy of the list that has room behind its end, in which there is something.
func spare[T any](list []T, filler T) []T {
	c := append(slices.Clone(list), filler, filler, filler)
	return c[:len(list)]
}

// kept reports whether a list is as it was given, and has the filler behind its end.
func kept[T any](list, given []T, filler T) bool {
	// As many of both, for nil and an empty list are the same here.
	return len(list) == len(given) && reflect.DeepEqual(list[:len(given)+3], append(slices.Clone(given), filler, filler, filler))
}

// TestOnlyRead is of P5.8: arguments are not changed, not even behind their ends.
func TestOnlyRead(t *testing.T) {
	for _, given := range append(someBooks(200, api.FillHands, 3), example(), even(), between()) {
		b := withHands(given, spare(given.Hands, one(77))...)
		plan := spare(planOf(given), 77)
		everything(b, plan)
		if !kept(b.Hands, given.Hands, one(77)) || !kept(plan, planOf(given), 77) {
			t.Fatalf("%v, %v has become %v, %v", given, planOf(given), b, plan)
		}
	}
}

// TestNewMemory is of P5.8: results share nothing with arguments, nor with each other.
func TestNewMemory(t *testing.T) {
	b, plan := example(), []int{2, 5, 6, 7}
	for name, call := range map[string]func() []int{
		"ByHand": func() []int { l, _ := fill.ByHand(b, plan); return l },
		"Best":   func() []int { l, _ := fill.Best(b); return l },
	} {
		first, second := call(), call()
		want := slices.Clone(first)
		if len(want) == 0 {
			t.Fatalf("%s: nothing", name)
		}
		for i := range first {
			first[i] = -1
		}
		_ = append(first, -1)
		if third := call(); !slices.Equal(second, want) || !slices.Equal(third, want) {
			t.Errorf("%s: %v, %v", name, second, third)
		}
	}
	best, _ := fill.Best(b)
	byHand, _ := fill.ByHand(b, plan)
	if !reflect.DeepEqual(b, example()) || !slices.Equal(plan, []int{2, 5, 6, 7}) {
		t.Errorf("the book has become %v, the plan %v", b, plan)
	}
	b.Hands[5], plan[1] = one(1), 4
	if changed, _ := fill.Best(b); !slices.Equal(best, []int{2, 5, 6, 7}) || !slices.Equal(byHand, []int{1, 3}) || slices.Equal(changed, best) {
		t.Errorf("Best: %v, ByHand: %v, and after a change %v", best, byHand, changed)
	}
}
