package insure_test

import (
	"math"
	"math/rand"
	"reflect"
	"slices"
	"testing"

	"lucifer/api"
	"lucifer/insure"
	"lucifer/tunnel"
	"lucifer/yard"
)

// isValid reports whether a book is valid, as the chapter defines it.
func isValid(b api.InsureBook) bool {
	r := b.Rates
	rates := []int{r.Good, r.Near, r.Served, r.Heat, r.Frame}
	return yard.Check(b.Yard) == api.OK && tunnel.Check(b.Tunnel) == api.OK &&
		!slices.ContainsFunc(rates, func(n int) bool { return n < 0 || n > 99 })
}

// isPlan reports whether a valid book has a plan, by looking for it among all plans.
func isPlan(b api.InsureBook, p api.InsurePlan) bool {
	same := func(list []int) func([]int) bool {
		return func(other []int) bool { return slices.Equal(list, other) }
	}
	return slices.ContainsFunc(allChoices(len(b.Yard.Lots)), same(p.Choice)) && slices.ContainsFunc(allSets(len(b.Tunnel.Parts)), same(p.Set))
}

// wantErrors returns of each call the error that it has (none is OK).
func wantErrors(b api.InsureBook, p api.InsurePlan, number int) map[string]api.Errno {
	want := map[string]api.Errno{}
	if !isValid(b) {
		for call := range allErrors(b, p, number) {
			want[call] = api.ErrInsure
		}
		return want
	}
	k := know(b)
	if isPlan(b, p) {
		_, want["Worst"] = k.worst(p.Choice)
		_, want["Bucket"] = k.bucket(p)
		if !slices.Contains(p.Choice, number) {
			want["Burns"], want["Loss"] = api.ErrInsureAsk, api.ErrInsureAsk
		}
		if number < 1 || number > 12 {
			want["Parts"] = api.ErrInsureAsk
		}
	} else {
		for _, call := range []string{"Premium", "Causes", "Fits", "Burns", "Loss", "Worst", "Bucket", "Parts"} {
			want[call] = api.ErrInsureAsk
		}
	}
	if number < 0 || number > 9999 {
		want["Cheapest"], want["Most"] = api.ErrInsureAsk, api.ErrInsureAsk
		return want
	}
	all := k.allPlans()
	_, want["Cheapest"] = cheapestOf(all, number)
	_, want["Most"] = mostOf(all, number)
	return want
}

// disturb changes some numbers and lists of a book, which is no other one's.
func disturb(r *rand.Rand, b *api.InsureBook, any func() int) {
	y, u := &b.Yard, &b.Tunnel
	numbers := []*int{
		&y.Apart, &y.Door, &y.Bucket, &y.Error, &y.Lots[0].At.X, &y.Lots[0].Room.Low, &y.Lots[0].Room.High, &y.Doors[0].Y,
		&u.Parts[0].Heat[3], &u.Parts[0].Damp.Low, &u.Parts[0].Damp.High, &b.Rates.Good, &b.Rates.Near, &b.Rates.Served, &b.Rates.Heat, &b.Rates.Frame,
	}
	for i := range u.Frames {
		numbers = append(numbers, &u.Frames[i].Need.Low, &u.Frames[i].Stay[0])
	}
	for _, number := range numbers {
		if r.Intn(len(numbers)) == 0 {
			*number = any()
		}
	}
	switch r.Intn(12) {
	case 0:
		y.Lots = slices.Repeat(y.Lots, r.Intn(3))
	case 1:
		y.Buckets = append(y.Buckets, at(any(), any()))
	case 2:
		u.Parts = append(u.Parts, u.Parts[0])
	case 3:
		u.Frames = append(u.Frames, api.TunnelFrame{})
	}
	y.Error = min(y.Error, 2) // or there are too many truths to try out
}

// TestAnyArguments is of P1: no call panics, each error is the one that is named first, and with it all else is zero.
func TestAnyArguments(t *testing.T) {
	numbers := []int{math.MinInt, math.MinInt + 1, -1, 0, 1, 2, 3, 4, 5, 6, 7, 11, 12, 13, 20, 21, 98, 99, 100, 200, 201, 999, 9998, 9999, 10000, math.MaxInt - 1, math.MaxInt}
	r := rand.New(rand.NewSource(12))
	any := func() int { return numbers[r.Intn(len(numbers))] }
	valid, plans := map[bool]int{}, map[bool]int{}
	for i := range 3000 {
		b := someBook(r, 1+r.Intn(4), 1+r.Intn(2))
		if i%2 == 0 {
			disturb(r, &b, any)
		}
		number := any()
		if r.Intn(2) == 0 {
			number = r.Intn(14) - 1
		}
		p := api.InsurePlan{Choice: lots(any(), any()), Set: lots(any(), any())}
		if isValid(b) && r.Intn(4) > 0 {
			p = somePlan(r, b)
			switch r.Intn(6) {
			case 0:
				p.Choice = append(slices.Clone(p.Choice), any())
			case 1:
				p.Set[r.Intn(len(p.Set))] = any()
			}
		}
		valid[isValid(b)]++
		want := wantErrors(b, p, number)
		plans[want["Premium"] == api.OK]++
		for call, got := range allErrors(b, p, number) {
			if e := want[call]; got.e != e || got.e != api.OK && !got.zero {
				t.Fatalf("%s of %v, %v, %d: %v, not %d", call, b, p, number, got, e)
			}
		}
	}
	if valid[true] < 1000 || valid[false] < 500 || plans[true] < 1000 || plans[false] < 500 {
		t.Errorf("so many books are valid: %v; so many plans: %v", valid, plans)
	}
}

// everything returns all that the package tells of a book and a plan.
func everything(b api.InsureBook, p api.InsurePlan) []any {
	var all []any
	both := func(x any, e api.Errno) { all = append(all, x, e) }
	span := func(s api.Span, e api.Errno) { both(s, e) }
	number := func(n int, e api.Errno) { both(n, e) }
	list := func(l []int, e api.Errno) { both(append([]int{}, l...), e) }
	plan := func(p api.InsurePlan, e api.Errno) {
		list(p.Choice, e)
		list(p.Set, e)
	}
	both(nil, insure.Check(b))
	span(insure.Premium(b, p))
	c, e := insure.Causes(b, p)
	both(append([]api.Span{}, c...), e)
	number(insure.Fits(b, p))
	for n := range 8 {
		plan(insure.Cheapest(b, 5*n-1))
		plan(insure.Most(b, 20*n-1))
	}
	for n := range api.InsureParts + 2 {
		l, m, e := insure.Burns(b, p, n-1)
		list(l, e)
		list(m, e)
		span(insure.Loss(b, p, n-1))
		list(insure.Parts(b, p, n))
	}
	number(insure.Worst(b, p))
	number(insure.Bucket(b, p))
	return all
}

// TestSameAgain is of P2.
func TestSameAgain(t *testing.T) {
	r := rand.New(rand.NewSource(13))
	books := someBooks(60)
	for _, b := range wrongBooks() {
		books = append(books, b)
	}
	var before [][]any
	var plans []api.InsurePlan
	for i, b := range books {
		p := plan(lots(0), 0)
		if isValid(b) {
			p = somePlan(r, b)
		}
		plans, before = append(plans, p), append(before, everything(books[i], p))
	}
	for i := len(books) - 1; i >= 0; i-- {
		if again := everything(books[i], plans[i]); !reflect.DeepEqual(again, before[i]) {
			t.Errorf("of %v, %v there was %v, and now %v", books[i], plans[i], before[i], again)
		}
	}
}

// TestNilAndEmpty is of R3.
func TestNilAndEmpty(t *testing.T) {
	full := plan(lots(0, 1, 2), 0, 1)
	for name, change := range map[string]func(b *api.InsureBook, p *api.InsurePlan, empty bool){
		"lots":     func(b *api.InsureBook, p *api.InsurePlan, empty bool) { b.Yard.Lots = none[api.YardLot](empty) },
		"doors":    func(b *api.InsureBook, p *api.InsurePlan, empty bool) { b.Yard.Doors = none[api.YardSpot](empty) },
		"buckets":  func(b *api.InsureBook, p *api.InsurePlan, empty bool) { b.Yard.Buckets = none[api.YardSpot](empty) },
		"spare":    func(b *api.InsureBook, p *api.InsurePlan, empty bool) { b.Yard.Spare = none[api.YardSpot](empty) },
		"parts":    func(b *api.InsureBook, p *api.InsurePlan, empty bool) { b.Tunnel.Parts = none[api.TunnelPart](empty) },
		"frames":   func(b *api.InsureBook, p *api.InsurePlan, empty bool) { b.Tunnel.Frames = none[api.TunnelFrame](empty) },
		"stay":     func(b *api.InsureBook, p *api.InsurePlan, empty bool) { b.Tunnel.Frames[0].Stay = none[int](empty) },
		"a choice": func(b *api.InsureBook, p *api.InsurePlan, empty bool) { p.Choice = none[int](empty) },
		"a set":    func(b *api.InsureBook, p *api.InsurePlan, empty bool) { p.Set = none[int](empty) },
	} {
		var told [2][]any
		for i, empty := range []bool{false, true} {
			b, p := example(), full
			change(&b, &p, empty)
			told[i] = everything(b, p)
		}
		if !reflect.DeepEqual(told[0], told[1]) {
			t.Errorf("%s: %v, %v", name, told[0], told[1])
		}
	}
}

// none returns a nil list, or an empty one.
func none[T any](empty bool) []T {
	if empty {
		return []T{}
	}
	return nil
}

// spare returns a copy of the list that has room behind its end, in which there is something.
func spare[T any](list []T, filler T) []T {
	c := append(slices.Clone(list), filler, filler, filler)
	return c[:len(list)]
}

// kept reports whether a list is as it was given, and has the filler behind its end.
func kept[T any](list, given []T, filler T) bool {
	// As many of both, for nil and an empty list are the same here.
	return len(list) == len(given) && reflect.DeepEqual(list[:len(given)+3], append(slices.Clone(given), filler, filler, filler))
}

// TestOnlyRead is of P10.10: arguments are not changed, not even behind their ends.
func TestOnlyRead(t *testing.T) {
	r := rand.New(rand.NewSource(14))
	l, s, u, f := lot(7, 7, one(77)), at(7, 7), part(one(7), 7, 7, 7, 7), frame(one(77), 7)
	for _, given := range append(someBooks(100), example()) {
		b, of := given, somePlan(r, given)
		b.Yard.Lots, b.Yard.Doors = spare(given.Yard.Lots, l), spare(given.Yard.Doors, s)
		b.Yard.Buckets, b.Yard.Spare = spare(given.Yard.Buckets, s), spare(given.Yard.Spare, s)
		b.Tunnel.Parts, b.Tunnel.Frames = spare(given.Tunnel.Parts, u), spare(given.Tunnel.Frames, f)
		for i, g := range given.Tunnel.Frames {
			b.Tunnel.Frames[i].Stay = spare(g.Stay, 77)
		}
		p := api.InsurePlan{Choice: spare(of.Choice, 77), Set: spare(of.Set, 77)}
		everything(b, p)
		is := kept(b.Yard.Lots, given.Yard.Lots, l) && kept(b.Yard.Doors, given.Yard.Doors, s)
		is = is && kept(b.Yard.Buckets, given.Yard.Buckets, s) && kept(b.Yard.Spare, given.Yard.Spare, s)
		is = is && kept(b.Tunnel.Parts, given.Tunnel.Parts, u) && kept(b.Tunnel.Frames, given.Tunnel.Frames, f)
		for i, g := range given.Tunnel.Frames {
			is = is && kept(b.Tunnel.Frames[i].Stay, g.Stay, 77)
		}
		if !is || !kept(p.Choice, of.Choice, 77) || !kept(p.Set, of.Set, 77) {
			t.Fatalf("%v, %v has become %v, %v", given, of, b, p)
		}
	}
}

// TestNewMemory is of P10.10: results share nothing with arguments, nor with each other.
func TestNewMemory(t *testing.T) {
	b, all := example(far(8, 20, 12, 1)), plan(lots(0, 1, 2, 3), 1, 2)
	for name, call := range map[string]func() [][]int{
		"Cheapest": func() [][]int { p, _ := insure.Cheapest(b, 40); return [][]int{p.Choice, p.Set} },
		"Most":     func() [][]int { p, _ := insure.Most(b, 100); return [][]int{p.Choice, p.Set} },
		"Burns":    func() [][]int { l, m, _ := insure.Burns(b, all, 1); return [][]int{l, m} },
		"Parts":    func() [][]int { l, _ := insure.Parts(b, all, 3); return [][]int{l} },
	} {
		first, second := call(), call()
		for i := range first {
			want := slices.Clone(second[i])
			if len(want) == 0 {
				t.Fatalf("%s: nothing", name)
			}
			for k := range first[i] {
				first[i][k] = -1
			}
			_ = append(first[i], -1)
			if third := call(); !slices.Equal(second[i], want) || !slices.Equal(third[i], want) || i+1 < len(first) && !slices.Equal(first[i+1], third[i+1]) {
				t.Errorf("%s: %v, %v, %v", name, first, second, third)
			}
		}
	}
	first, _ := insure.Causes(b, all)
	want := slices.Clone(first)
	first[0] = one(-1)
	_ = append(first, one(-1))
	if again, _ := insure.Causes(b, all); !slices.Equal(again, want) {
		t.Errorf("Causes: %v, not %v", again, want)
	}
	if !reflect.DeepEqual(b, example(far(8, 20, 12, 1))) || !reflect.DeepEqual(all, plan(lots(0, 1, 2, 3), 1, 2)) {
		t.Errorf("the book has become %v, the plan %v", b, all)
	}
	cheapest, _ := insure.Cheapest(b, 40)
	b.Yard.Lots[0].Room = one(40)
	if changed, _ := insure.Cheapest(b, 40); !slices.Equal(cheapest.Choice, lots(1, 2)) || !slices.Equal(changed.Choice, lots(0)) {
		t.Errorf("Cheapest: %v, and after a change %v", cheapest, changed)
	}
}
