package yard_test

import (
	"math"
	"math/rand"
	"reflect"
	"slices"
	"testing"

	"lucifer/api"
	"lucifer/yard"
)

// isValid reports whether a yard is valid, as the chapter defines it.
func isValid(b api.YardBook) bool {
	if len(b.Lots) < 1 || len(b.Lots) > 7 || len(b.Doors) < 1 || len(b.Doors) > 3 || len(b.Buckets) > 3 || len(b.Spare) > 3 {
		return false
	}
	if b.Apart < 0 || b.Apart > 200 || b.Door < 0 || b.Door > 200 || b.Bucket < 0 || b.Bucket > 200 || b.Error < 0 || b.Error > 20 {
		return false
	}
	spots := slices.Concat(b.Doors, b.Buckets, b.Spare)
	for _, l := range b.Lots {
		if l.Room.Low < 0 || l.Room.High > 99 || l.Room.Low > l.Room.High {
			return false
		}
		spots = append(spots, l.At)
	}
	return !slices.ContainsFunc(spots, func(s api.YardSpot) bool { return s.X < 0 || s.X > 99 || s.Y < 0 || s.Y > 99 })
}

// wantErrors returns of each call the error that it has (none is OK).
func wantErrors(b api.YardBook, first, other int, choice []int) map[string]api.Errno {
	want := map[string]api.Errno{}
	if !isValid(b) {
		for call := range allErrors(b, first, other, choice) {
			want[call] = api.ErrYard
		}
		return want
	}
	asked := func(is bool, calls ...string) {
		for _, call := range calls {
			if !is {
				want[call] = api.ErrYardAsk
			}
		}
	}
	isLot := func(n int) bool { return n >= 0 && n < len(b.Lots) }
	isChoice := slices.ContainsFunc(allChoices(len(b.Lots)), func(c []int) bool { return slices.Equal(c, choice) })
	asked(isLot(first) && isLot(other) && first != other, "Near")
	asked(isLot(first), "Served")
	asked(isChoice, "Allowed", "More", "Breaks", "Clear")
	k := know(b)
	if isChoice && k.allowed(choice) < 2 {
		want["More"] = api.ErrNone
	}
	_, want["Place"] = k.place()
	return want
}

// TestAnyArguments is of P1: no call panics, each error is the one that is named first, and with it all else is zero.
func TestAnyArguments(t *testing.T) {
	numbers := []int{math.MinInt, math.MinInt + 1, -1, 0, 1, 2, 3, 4, 5, 6, 7, 8, 19, 20, 21, 98, 99, 100, 199, 200, 201, math.MaxInt}
	small := []int{-1, 0, 0, 1, 1, 2, 2, 3, 4, 5, 6, 7}
	r := rand.New(rand.NewSource(8))
	any := func() int { return numbers[r.Intn(len(numbers))] }
	near := func() int {
		if r.Intn(8) == 0 {
			return any()
		}
		return small[r.Intn(len(small))]
	}
	anySpots := func() []api.YardSpot {
		var all []api.YardSpot
		for range r.Intn(5) {
			all = append(all, at(near(), near()))
		}
		return all
	}
	valid := map[bool]int{}
	for i := range 8000 {
		b := someBook(r, 1+r.Intn(7), r.Intn(3))
		switch i % 4 {
		case 0:
			b = api.YardBook{Doors: anySpots(), Buckets: anySpots(), Spare: anySpots(), Apart: near(), Door: near(), Bucket: near(), Error: near()}
			for range r.Intn(9) {
				b.Lots = append(b.Lots, lot(near(), near(), to(near(), near())))
			}
		case 1:
			for _, number := range []*int{&b.Apart, &b.Door, &b.Bucket, &b.Error, &b.Lots[0].At.X, &b.Lots[0].At.Y, &b.Lots[0].Room.Low, &b.Lots[0].Room.High, &b.Doors[0].X, &b.Doors[0].Y} {
				if r.Intn(10) == 0 {
					*number = any()
				}
			}
			for _, list := range []*[]api.YardSpot{&b.Doors, &b.Buckets, &b.Spare} {
				if r.Intn(8) == 0 {
					*list = anySpots()
				}
			}
			b.Error = min(b.Error, 3) // or there are too many truths to try out
		}
		first, other := near(), near()
		var choice []int
		for range r.Intn(4) {
			choice = append(choice, near())
		}
		if i%3 > 0 && isValid(b) {
			choice = someChoice(r, b)
		}
		valid[isValid(b)]++
		want := wantErrors(b, first, other, choice)
		for call, got := range allErrors(b, first, other, choice) {
			if e := want[call]; got.e != e || got.e != api.OK && !got.zero {
				t.Fatalf("%s of %v, %d, %d, %v: %v, not %d", call, b, first, other, choice, got, e)
			}
		}
	}
	if valid[true] < 1000 || valid[false] < 1000 {
		t.Errorf("so many yards are valid: %v", valid)
	}
}

// everything returns all that the package tells of a yard and a choice.
func everything(b api.YardBook, choice []int) []any {
	var all []any
	both := func(x any, e api.Errno) { all = append(all, x, e) }
	list := func(l []int, e api.Errno) { both(append([]int{}, l...), e) }
	both(nil, yard.Check(b))
	for i := -1; i <= min(len(b.Lots), api.YardLots+1); i++ {
		n, e := yard.Served(b, i)
		both(n, e)
		for k := -1; k <= min(len(b.Lots), api.YardLots+1); k++ {
			n, e := yard.Near(b, i, k)
			both(n, e)
		}
	}
	n, e := yard.Allowed(b, choice)
	both(n, e)
	l, e := yard.Best(b)
	list(l, e)
	s, e := yard.Goods(b)
	both(s, e)
	l, e = yard.More(b, choice)
	list(l, e)
	p, l, e := yard.Breaks(b, choice)
	both(append([]api.YardPair{}, p...), e)
	list(l, e)
	n, e = yard.Place(b)
	both(n, e)
	l, e = yard.Clear(b, choice)
	list(l, e)
	return all
}

// whole returns the choice of all lots of a yard.
func whole(b api.YardBook) []int {
	var all []int
	for i := range b.Lots {
		all = append(all, i)
	}
	return all
}

// TestSameAgain is of P2.
func TestSameAgain(t *testing.T) {
	books := someBooks(90)
	for _, b := range wrongBooks() {
		books = append(books, b)
	}
	var before [][]any
	for _, b := range books {
		before = append(before, everything(b, whole(b)))
	}
	for i := len(books) - 1; i >= 0; i-- {
		if again := everything(books[i], whole(books[i])); !reflect.DeepEqual(again, before[i]) {
			t.Errorf("of %v there was %v, and now %v", books[i], before[i], again)
		}
	}
}

// TestNilAndEmpty is of R3.
func TestNilAndEmpty(t *testing.T) {
	books := map[string][2]api.YardBook{
		"lots":    {withLots(example()), withLots(example(), []api.YardLot{}...)},
		"doors":   {withDoors(example()), withDoors(example(), []api.YardSpot{}...)},
		"buckets": {withBuckets(example()), withBuckets(example(), []api.YardSpot{}...)},
		"spare":   {withSpare(example()), withSpare(example(), []api.YardSpot{}...)},
	}
	for name, both := range books {
		for _, choice := range [][]int{nil, {}, {0}, {0, 1, 2}} {
			if a, b := everything(both[0], choice), everything(both[1], choice); !reflect.DeepEqual(a, b) {
				t.Errorf("%s: %v, %v", name, a, b)
			}
		}
		for _, b := range both {
			if a, b := everything(b, nil), everything(b, []int{}); !reflect.DeepEqual(a, b) {
				t.Errorf("%s: %v, %v", name, a, b)
			}
		}
	}
	if a, b := everything(example(), nil), everything(example(), []int{}); !reflect.DeepEqual(a, b) {
		t.Errorf("%v, %v", a, b)
	}
}

// spare returns a copy of the list that has room behind its end, in which there is something.
func spare[T any](list []T, filler T) []T {
	c := append(slices.Clone(list), filler, filler, filler)
	return c[:len(list)]
}

// kept reports whether a list is as it was given, and has the filler behind its end.
func kept[T any](list, given []T, filler T) bool {
	// As many of both, for nil and an empty list are the same here.
	return len(list) == len(given) && reflect.DeepEqual(list[:len(given)+3], append(slices.Clone(given), filler, filler, filler))
}

// TestOnlyRead is of P6.9: arguments are not changed, not even behind their ends.
func TestOnlyRead(t *testing.T) {
	l, s := lot(7, 7, one(77)), at(7, 7)
	for _, given := range append(someBooks(200), example()) {
		b := given
		b.Lots, b.Doors, b.Buckets, b.Spare = spare(b.Lots, l), spare(b.Doors, s), spare(b.Buckets, s), spare(b.Spare, s)
		choice := spare(whole(given), 77)
		everything(b, choice)
		if !kept(b.Lots, given.Lots, l) || !kept(b.Doors, given.Doors, s) || !kept(b.Buckets, given.Buckets, s) || !kept(b.Spare, given.Spare, s) || !kept(choice, whole(given), 77) {
			t.Fatalf("%v has become %v, %v", given, b, choice)
		}
	}
}

// TestNewMemory is of P6.9: results share nothing with arguments, nor with each other.
func TestNewMemory(t *testing.T) {
	b, choice := example(), []int{0, 1, 2, 3}
	for name, call := range map[string]func() []int{
		"Best":   func() []int { l, _ := yard.Best(b); return l },
		"More":   func() []int { l, _ := yard.More(b, nil); return l },
		"Breaks": func() []int { _, l, _ := yard.Breaks(b, choice); return l },
		"Clear":  func() []int { l, _ := yard.Clear(b, choice); return l },
		"Clear all": func() []int {
			l, _ := yard.Clear(withBuckets(b), choice)
			return l
		},
	} {
		first, second := call(), call()
		want := slices.Clone(first)
		if len(want) == 0 {
			t.Fatalf("%s: nothing", name)
		}
		for i := range first {
			first[i] = -1
		}
		_ = append(first, -1)
		if third := call(); !slices.Equal(second, want) || !slices.Equal(third, want) {
			t.Errorf("%s: %v, %v", name, second, third)
		}
	}
	first, _, _ := yard.Breaks(b, choice)
	first[0] = pair(6, 6)
	_ = append(first, pair(6, 6))
	if again, _, _ := yard.Breaks(b, choice); !slices.Equal(again, []api.YardPair{pair(0, 1), pair(0, 2)}) {
		t.Errorf("Breaks: %v", again)
	}
	if !reflect.DeepEqual(b, example()) || !slices.Equal(choice, []int{0, 1, 2, 3}) {
		t.Errorf("the yard has become %v, the choice %v", b, choice)
	}
	best, _ := yard.Best(b)
	b.Lots[0].Room = one(99)
	if changed, _ := yard.Best(b); !slices.Equal(best, []int{1, 2}) || !slices.Equal(changed, []int{0}) {
		t.Errorf("Best: %v, and after a change %v", best, changed)
	}
}
