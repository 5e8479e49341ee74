package fold_test

import (
	"math/rand"
	"slices"
	"testing"

	"lucifer/api"
	"lucifer/fold"
)

// The tests in this file hold the package against the definitions, and against the chapter's properties, on many sheets.

const (
	many  = 1000
	small = 5 // flaps of those sheets
)

// TestTruths is of P4.1 and P4.2.
func TestTruths(t *testing.T) {
	meet, does := map[int]int{}, map[int]int{}
	for _, b := range someSheets(many, small) {
		all := allMeets(b)
		for one := range b.Flaps {
			for other := range b.Flaps {
				if one == other {
					continue
				}
				want := meetOf(all, one, other)
				if n, e := fold.Meet(b, one, other); n != want || e != api.OK {
					t.Fatalf("Meet of %v, %d, %d: %d, not %d, %d", b, one, other, n, want, e)
				}
				meet[want]++
			}
		}
		for _, order := range allOrders(b) {
			want := doesOf(b.Rules, all, order)
			if n, e := fold.Does(b, order); n != want || e != api.OK {
				t.Fatalf("Does of %v, %v: %d, not %d, %d", b, order, n, want, e)
			}
			does[want]++
		}
	}
	for kind := range 3 {
		if meet[kind] < many/2 || does[kind] < many/2 {
			t.Errorf("so many flaps meet: %v; so many orders do: %v", meet, does)
		}
	}
}

// TestChoices is of P4.3 to P4.5, and of P4.7 and P4.13: all orders, lists, rounds and rules are tried out.
func TestChoices(t *testing.T) {
	rings, rounds, drops := map[int]int{}, map[int]int{}, map[int]int{}
	for _, b := range someSheets(many, small) {
		all := allMeets(b)
		orders := ordersOf(b.Rules, all, allOrders(b))
		want := sheetAnswers{b: b, orders: len(orders), ring: ringOf(b, all), drop: dropOf(b, all)}
		if len(orders) > 0 {
			want.order, want.rounds = orders[0], roundsOf(b, all)
			if row := longestRow(b, all); row != want.rounds {
				t.Errorf("%v has %d rounds, but a row of %d", b, want.rounds, row)
			}
		}
		want.check(t, b)
		if t.Failed() {
			t.FailNow()
		}
		rings[len(want.ring)]++
		rounds[want.rounds]++
		drops[len(want.drop)]++
	}
	if rings[2] < many/10 || rings[3] < many/50 || rings[4] < many/200 || rounds[2] < many/10 || rounds[3] < many/50 || rounds[4] < many/100 || drops[1] < many/10 || drops[2] < many/50 {
		t.Errorf("so many rings, rounds, rules have so many: %v, %v, %v", rings, rounds, drops)
	}
}

// TestManyFlaps is of P4.2 to P4.5, on sheets of the most flaps.
func TestManyFlaps(t *testing.T) {
	r := rand.New(rand.NewSource(8))
	lists := allOrders(pile(api.FoldFlaps))
	for range 12 {
		b := someSheet(r, api.FoldFlaps)
		all := allMeets(b)
		orders := ordersOf(b.Rules, all, lists)
		if n, e := fold.Orders(b); n != len(orders) || e != api.OK {
			t.Fatalf("Orders of %v: %d, not %d, %d", b, n, len(orders), e)
		}
		ring := ringOf(b, all)
		if l, e := fold.Ring(b); !slices.Equal(l, ring) || (e == api.OK) != (len(orders) == 0) {
			t.Fatalf("Ring of %v: %v, not %v, %d", b, l, ring, e)
		}
		l, e := fold.Order(b)
		if n, f := fold.Rounds(b); f != e || e == api.OK && n != longestRow(b, all) {
			t.Fatalf("Rounds of %v: %d, %d", b, n, f)
		}
		if len(orders) > 0 && !slices.Equal(l, orders[0]) || e == api.OK != (len(orders) > 0) {
			t.Fatalf("Order of %v: %v, %d", b, l, e)
		}
	}
}

// lying returns which flaps lie on a square, the lowest one first, if they reach so far and are folded in so.
func lying(b api.FoldSheet, reach, order []int, column, row int) []int {
	var list []int
	for _, f := range order {
		if isCovered(b, b.Flaps[f], reach[f], column, row) {
			list = append(list, f)
		}
	}
	return list
}

// isStopped reports whether somewhere a flap lies over one that must lie over it.
func isStopped(b api.FoldSheet, reach, order []int) bool {
	for column := range b.Wide {
		for row := range b.High {
			list := lying(b, reach, order, column, row)
			for _, r := range b.Rules {
				over, under := slices.Index(list, r.Over), slices.Index(list, r.Under)
				if over >= 0 && under > over {
					return true
				}
			}
		}
	}
	return false
}

// TestNoFlapStops is of P4.9: square by square.
func TestNoFlapStops(t *testing.T) {
	orders := 0
	for _, b := range someSheets(many, small) {
		order, e := fold.Order(b)
		if e != api.OK {
			continue
		}
		orders++
		for _, reach := range allTruths(b) {
			if isStopped(b, reach, order) {
				t.Fatalf("in the order %v of %v a flap is stopped with %v", order, b, reach)
			}
		}
	}
	if orders < many/4 {
		t.Errorf("there are only %d orders", orders)
	}
}

// TestRingOrOrder is of P4.10, and of when there is a ring in P4.4.
func TestRingOrOrder(t *testing.T) {
	rings := 0
	for _, b := range someSheets(2*many, api.FoldFlaps) {
		_, e := fold.Order(b)
		ring, f := fold.Ring(b)
		if (e == api.OK) == (f == api.OK) || e != api.OK && e != api.ErrNone || f != api.OK && f != api.ErrNone {
			t.Fatalf("%v has an order and a ring, or none: %d, %d", b, e, f)
		}
		if f != api.OK {
			continue
		}
		rings++
		for i, first := range ring {
			under := ring[(i+len(ring)-1)%len(ring)]
			n, e := fold.Meet(b, first, under)
			if !slices.Contains(b.Rules, over(first, under)) || n == 0 || e != api.OK {
				t.Fatalf("of the ring %v of %v the flap %d can be folded in first: %d, %d", ring, b, first, n, e)
			}
		}
	}
	if rings < many/2 {
		t.Errorf("there are only %d rings", rings)
	}
}

// easier returns sheets that are a sheet of which a flap reaches less far, or that has a rule less.
func easier(r *rand.Rand, b api.FoldSheet) []api.FoldSheet {
	var sheets []api.FoldSheet
	for f, known := range b.Flaps {
		less := r.Intn(known.Reach.Low)
		sheets = append(sheets,
			reaches(b, f, to(known.Reach.Low, known.Reach.Low+r.Intn(known.Reach.High-known.Reach.Low+1))),
			reaches(b, f, to(known.Reach.Low-less, known.Reach.High)),
			reaches(b, f, to(known.Reach.Low-less, known.Reach.High-less)))
	}
	for i := range b.Rules {
		sheets = append(sheets, withRules(b, others(b.Rules, []int{i})...))
	}
	return sheets
}

// TestEasier is of P4.11.
func TestEasier(t *testing.T) {
	r := rand.New(rand.NewSource(4))
	more := 0
	for _, b := range someSheets(many/2, 4) {
		n, _ := fold.Orders(b)
		orders := allOrders(b)
		for _, c := range easier(r, b) {
			for _, order := range orders {
				did, _ := fold.Does(b, order)
				does, e := fold.Does(c, order)
				if does < did || e != api.OK {
					t.Fatalf("Does of %v by %v: %d, but of %v: %d, %d", b, order, did, c, does, e)
				}
			}
			m, e := fold.Orders(c)
			if m < n || e != api.OK {
				t.Fatalf("Orders of %v: %d, but of %v: %d, %d", b, n, c, m, e)
			}
			if m > n {
				more++
			}
		}
	}
	if more < many/10 {
		t.Errorf("only %d sheets have more orders", more)
	}
}

// TestShorterFlaps is of P4.6: the sheet folds with as much less, and not with one less.
func TestShorterFlaps(t *testing.T) {
	some := map[bool]int{}
	for _, b := range someSheets(many, 4) {
		for f, known := range b.Flaps {
			want, e := shorterOf(b, f)
			n, got := fold.Shorter(b, f)
			if n != want || got != e {
				t.Fatalf("Shorter of %v, %d: %d, %d, not %d, %d", b, f, n, got, want, e)
			}
			if got != api.OK {
				continue
			}
			some[n > 0]++
			if _, e := fold.Order(reaches(b, f, to(known.Reach.Low, known.Reach.High-n))); e != api.OK {
				t.Fatalf("%v does not fold if the flap %d is shorter by %d: %d", b, f, n, e)
			}
			if n == 0 {
				continue
			}
			if _, e := fold.Order(reaches(b, f, to(known.Reach.Low, known.Reach.High-n+1))); e != api.ErrNone {
				t.Fatalf("%v folds if the flap %d is shorter by %d: %d", b, f, n-1, e)
			}
		}
	}
	if some[false] < many || some[true] < many/40 {
		t.Errorf("so many must be shorter: %v", some)
	}
}

// TestRulesThatGo is of P4.12.
func TestRulesThatGo(t *testing.T) {
	drops := 0
	for _, b := range someSheets(many/2, api.FoldFlaps) {
		gone, e := fold.Drop(b)
		if e != api.OK || len(gone) > len(b.Rules) || !slices.IsSorted(gone) {
			t.Fatalf("Drop of %v: %v, %d", b, gone, e)
		}
		if _, e := fold.Order(withRules(b, others(b.Rules, gone)...)); e != api.OK {
			t.Fatalf("%v does not fold without %v: %d", b, gone, e)
		}
		for _, list := range chosen(len(b.Rules)) {
			if len(list) > len(gone) || len(list) == len(gone) && slices.Compare(list, gone) >= 0 {
				break // lists behind those told do not matter
			}
			if _, e := fold.Order(withRules(b, others(b.Rules, list)...)); e != api.ErrNone {
				t.Fatalf("%v folds without %v, fewer than %v, or before it: %d", b, list, gone, e)
			}
		}
		if len(gone) > 0 {
			drops++
		}
	}
	if drops < many/10 {
		t.Errorf("only of %d sheets rules must go", drops)
	}
}
