package fold_test

import (
	"math"
	"math/rand"
	"reflect"
	"slices"
	"testing"

	"lucifer/api"
	"lucifer/fold"
)

// TestAnyArguments is of P1: no call panics, each error is the one that is named first, and with it all else is zero.
func TestAnyArguments(t *testing.T) {
	numbers := []int{math.MinInt, math.MinInt + 1, -1, 0, 1, 2, 3, 4, 7, 98, 99, 100, math.MaxInt - 1, math.MaxInt}
	r := rand.New(rand.NewSource(2))
	any := func() int { return numbers[r.Intn(len(numbers))] }
	for i := range 5000 {
		b := api.FoldSheet{Wide: any(), High: any()}
		for range r.Intn(9) {
			b.Flaps = append(b.Flaps, flap(any(), to(any(), any()), to(any(), any())))
		}
		for range r.Intn(12) {
			b.Rules = append(b.Rules, over(any(), any()))
		}
		if i%3 > 0 {
			b = someSheet(r, 1+r.Intn(4))
		}
		if i%9 == 1 {
			f := r.Intn(len(b.Flaps)) // nearly right
			b.Flaps[f] = flap(r.Intn(4), to(1, any()), to(0, any()))
		}
		order := []int{any(), any(), any(), any(), any()}[:r.Intn(6)]
		if i%4 == 0 {
			order = r.Perm(len(b.Flaps))
		}
		one, other := any(), any()
		want := wantErrors(b, order, one, other)
		for call, got := range allErrors(b, order, one, other) {
			if e := want[call]; got.e != e || got.e != api.OK && !got.zero {
				t.Fatalf("%s of %v, %v, %d, %d: %v, not %d", call, b, order, one, other, got, e)
			}
		}
	}
}

// isValid reports whether a sheet is valid.
func isValid(b api.FoldSheet) bool {
	in := func(n, low, high int) bool { return n >= low && n <= high }
	span := func(s api.Span, low, high int) bool {
		return s.Low <= s.High && in(s.Low, low, high) && in(s.High, low, high)
	}
	if !in(b.Wide, 1, 99) || !in(b.High, 1, 99) || !in(len(b.Flaps), 1, 7) || len(b.Rules) > 10 {
		return false
	}
	for _, f := range b.Flaps {
		across := f.Side == api.FoldLeft || f.Side == api.FoldRight
		along := f.Side == api.FoldTop || f.Side == api.FoldBottom
		if across && (!span(f.Reach, 1, b.Wide) || !span(f.Along, 0, b.High-1)) || along && (!span(f.Reach, 1, b.High) || !span(f.Along, 0, b.Wide-1)) || !across && !along {
			return false
		}
	}
	known := map[api.FoldRule]bool{}
	for _, r := range b.Rules {
		if !in(r.Over, 0, len(b.Flaps)-1) || !in(r.Under, 0, len(b.Flaps)-1) || r.Over == r.Under || known[r] {
			return false
		}
		known[r] = true
	}
	return true
}

// wantErrors returns of each call the error that it has (none is OK).
func wantErrors(b api.FoldSheet, order []int, one, other int) map[string]api.Errno {
	want := map[string]api.Errno{}
	if !isValid(b) {
		for _, call := range []string{"Check", "Meet", "Does", "Order", "Orders", "Ring", "Rounds", "Shorter", "Drop"} {
			want[call] = api.ErrFold
		}
		return want
	}
	isOne, isOther := one >= 0 && one < len(b.Flaps), other >= 0 && other < len(b.Flaps)
	if !isOne || !isOther || one == other {
		want["Meet"] = api.ErrFoldAsk
	}
	orders := allOrders(b)
	if !slices.ContainsFunc(orders, func(list []int) bool { return slices.Equal(list, order) }) {
		want["Does"] = api.ErrFoldAsk
	}
	if foldsOf(b.Rules, allMeets(b), orders) {
		want["Ring"] = api.ErrNone
	} else {
		want["Order"], want["Rounds"] = api.ErrNone, api.ErrNone
	}
	if !isOne {
		want["Shorter"] = api.ErrFoldAsk
	} else {
		_, want["Shorter"] = shorterOf(b, one)
	}
	return want
}

// everything returns all that the package tells of a sheet and an order.
func everything(b api.FoldSheet, order []int) []any {
	var all []any
	both := func(x any, e api.Errno) { all = append(all, x, e) }
	list := func(l []int, e api.Errno) { both(append([]int{}, l...), e) }
	both(nil, fold.Check(b))
	n, e := fold.Does(b, order)
	both(n, e)
	l, e := fold.Order(b)
	list(l, e)
	n, e = fold.Orders(b)
	both(n, e)
	l, e = fold.Ring(b)
	list(l, e)
	n, e = fold.Rounds(b)
	both(n, e)
	l, e = fold.Drop(b)
	list(l, e)
	for one := range 9 {
		n, e := fold.Shorter(b, one-1)
		both(n, e)
		for other := range 9 {
			n, e := fold.Meet(b, one-1, other-1)
			both(n, e)
		}
	}
	return all
}

// TestSameAgain is of P2.
func TestSameAgain(t *testing.T) {
	sheets := someSheets(100, 6)
	for _, b := range wrongSheets() {
		sheets = append(sheets, b)
	}
	order := []int{2, 0, 1, 3}
	var before [][]any
	for _, b := range sheets {
		before = append(before, everything(b, order))
	}
	for i := len(sheets) - 1; i >= 0; i-- {
		if again := everything(sheets[i], order); !reflect.DeepEqual(again, before[i]) {
			t.Errorf("of %v there was %v, and now %v", sheets[i], before[i], again)
		}
	}
}

// TestNilAndEmpty is of R3.
func TestNilAndEmpty(t *testing.T) {
	none, empty := withRules(example()), example()
	none.Rules, empty.Rules = nil, []api.FoldRule{}
	for _, order := range [][]int{{0, 1, 2, 3}, nil, {}} {
		if a, b := everything(none, order), everything(empty, order); !reflect.DeepEqual(a, b) {
			t.Errorf("%v, %v", a, b)
		}
	}
	if a, b := everything(example(), nil), everything(example(), []int{}); !reflect.DeepEqual(a, b) {
		t.Errorf("%v, %v", a, b)
	}
	if e := fold.Check(api.FoldSheet{Wide: 1, High: 1, Flaps: []api.FoldFlap{}}); e != api.ErrFold {
		t.Errorf("no flaps: %d", e)
	}
}

// spare returns a copy of the list that has room behind its end, in which there is something.
func spare[T any](list []T, filler T) []T {
	c := append(slices.Clone(list), filler, filler, filler)
	return c[:len(list)]
}

// kept reports whether a list is as it was given, and has the filler behind its end.
func kept[T any](list, given []T, filler T) bool {
	// As many of both, for nil and an empty list are the same here.
	return len(list) == len(given) && reflect.DeepEqual(list[:len(given)+3], append(slices.Clone(given), filler, filler, filler))
}

// TestOnlyRead is of P4.8: arguments are not changed, not even behind their ends.
func TestOnlyRead(t *testing.T) {
	fillFlap, fillRule := flap(3, one(77), one(77)), over(77, 77)
	for _, given := range append(someSheets(200, 6), example(), short()) {
		b := api.FoldSheet{Wide: given.Wide, High: given.High, Flaps: spare(given.Flaps, fillFlap), Rules: spare(given.Rules, fillRule)}
		givenOrder := allOrders(given)[0]
		slices.Reverse(givenOrder)
		order := spare(givenOrder, 77)
		everything(b, order)
		if !kept(b.Flaps, given.Flaps, fillFlap) || !kept(b.Rules, given.Rules, fillRule) || !kept(order, givenOrder, 77) {
			t.Fatalf("%v, %v has become %v, %v", given, givenOrder, b, order)
		}
	}
}

// TestNewMemory is of P4.8: results share nothing with arguments, nor with each other.
func TestNewMemory(t *testing.T) {
	twice := withRules(example(), append(example().Rules, over(1, 3), over(0, 1))...)
	for name, call := range map[string]func() []int{
		"Order":              func() []int { l, _ := fold.Order(short()); return l },
		"Order of one":       func() []int { l, _ := fold.Order(pile(1)); return l },
		"Order of all":       func() []int { l, _ := fold.Order(pile(7)); return l },
		"Ring":               func() []int { l, _ := fold.Ring(example()); return l },
		"Ring of two":        func() []int { l, _ := fold.Ring(twice); return l },
		"Drop":               func() []int { l, _ := fold.Drop(example()); return l },
		"Drop of several":    func() []int { l, _ := fold.Drop(twice); return l },
		"Ring of the square": func() []int { l, _ := fold.Ring(square(over(1, 0), over(2, 1), over(3, 2), over(0, 3))); return l },
	} {
		first, second := call(), call()
		want := slices.Clone(first)
		if len(want) == 0 {
			t.Fatalf("%s: nothing", name)
		}
		for i := range first {
			first[i] = -1
		}
		_ = append(first, -1)
		if third := call(); !slices.Equal(second, want) || !slices.Equal(third, want) {
			t.Errorf("%s: %v, %v", name, second, third)
		}
	}
	b := short()
	order, _ := fold.Order(b)
	b.Rules[0], b.Flaps[0].Reach = over(0, 3), one(9)
	if changed, _ := fold.Order(b); !slices.Equal(order, []int{1, 2, 0, 3}) || slices.Equal(changed, order) {
		t.Errorf("Order: %v, and after a change %v", order, changed)
	}
	order[0] = 9
	if !slices.Equal(b.Rules[1:], example().Rules[1:]) || !slices.Equal(b.Flaps[1:], example().Flaps[1:]) {
		t.Errorf("the sheet has become %v", b)
	}
}
