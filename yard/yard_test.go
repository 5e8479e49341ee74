package yard_test

import (
	"math"
	"slices"
	"testing"

	"lucifer/api"
	"lucifer/yard"
)

func to(low, high int) api.Span { return api.Span{Low: low, High: high} }

func one(n int) api.Span { return to(n, n) }

func at(x, y int) api.YardSpot { return api.YardSpot{X: x, Y: y} }

func lot(x, y int, room api.Span) api.YardLot { return api.YardLot{At: at(x, y), Room: room} }

func pair(one, other int) api.YardPair { return api.YardPair{One: one, Other: other} }

// example is the yard of the chapter's examples.
func example() api.YardBook {
	return api.YardBook{
		Lots:  []api.YardLot{lot(10, 10, to(20, 25)), lot(16, 10, one(30)), lot(10, 18, to(12, 20)), lot(30, 30, to(40, 50))},
		Doors: []api.YardSpot{at(12, 12)}, Buckets: []api.YardSpot{at(14, 14)}, Spare: []api.YardSpot{at(28, 26)},
		Apart: 7, Door: 20, Bucket: 12, Error: 2,
	}
}

// far returns the example with other distances that are asked for, and another one by which a distance can be wrong.
func far(apart, door, bucket, wrong int) api.YardBook {
	b := example()
	b.Apart, b.Door, b.Bucket, b.Error = apart, door, bucket, wrong
	return b
}

func withLots(b api.YardBook, lots ...api.YardLot) api.YardBook {
	b.Lots = lots
	return b
}

func withDoors(b api.YardBook, spots ...api.YardSpot) api.YardBook {
	b.Doors = spots
	return b
}

func withBuckets(b api.YardBook, spots ...api.YardSpot) api.YardBook {
	b.Buckets = spots
	return b
}

func withSpare(b api.YardBook, spots ...api.YardSpot) api.YardBook {
	b.Spare = spots
	return b
}

// withBucket returns a yard with one bucket more.
func withBucket(b api.YardBook, s api.YardSpot) api.YardBook {
	return withBuckets(b, append(slices.Clone(b.Buckets), s)...)
}

// having is a yard in which a lot is another one.
func having(b api.YardBook, number int, l api.YardLot) api.YardBook {
	b.Lots = slices.Clone(b.Lots)
	b.Lots[number] = l
	return b
}

// row is a yard of lots 4 columns apart, whose goods are told, all of them near enough to all.
func row(apart int, goods ...int) api.YardBook {
	b := api.YardBook{Doors: []api.YardSpot{at(0, 0)}, Buckets: []api.YardSpot{at(0, 0)}, Apart: apart, Door: 200, Bucket: 200}
	for i, n := range goods {
		b.Lots = append(b.Lots, lot(4*i, 0, one(n)))
	}
	return b
}

// street is a yard of lots on one row, of one good each, which can be wherever they are.
func street(apart, wrong int, columns ...int) api.YardBook {
	b := row(apart)
	b.Error = wrong
	for _, x := range columns {
		b.Lots = append(b.Lots, lot(x, 0, one(1)))
	}
	return b
}

func wrongBooks() map[string]api.YardBook {
	b := example()
	l := func(l api.YardLot) api.YardBook { return having(b, 3, l) }
	room := func(s api.Span) api.YardBook { return l(lot(30, 30, s)) }
	spots := make([]api.YardSpot, 4)
	many := make([]api.YardSpot, 100000)
	good := at(1, 1)
	books := map[string]api.YardBook{
		"nothing":          {},
		"no lots":          withLots(b),
		"8 lots":           withLots(b, make([]api.YardLot, 8)...),
		"100000 lots":      withLots(b, make([]api.YardLot, 100000)...),
		"no doors":         withDoors(b),
		"4 doors":          withDoors(b, spots...),
		"100000 doors":     withDoors(b, many...),
		"4 buckets":        withBuckets(b, spots...),
		"100000 buckets":   withBuckets(b, many...),
		"4 spare":          withSpare(b, spots...),
		"100000 spare":     withSpare(b, many...),
		"apart 201":        far(201, 20, 12, 2),
		"apart -1":         far(-1, 20, 12, 2),
		"apart huge":       far(math.MaxInt, 20, 12, 2),
		"apart least":      far(math.MinInt, 20, 12, 2),
		"door 201":         far(7, 201, 12, 2),
		"door -1":          far(7, -1, 12, 2),
		"door huge":        far(7, math.MaxInt, 12, 2),
		"door least":       far(7, math.MinInt, 12, 2),
		"bucket 201":       far(7, 20, 201, 2),
		"bucket -1":        far(7, 20, -1, 2),
		"bucket huge":      far(7, 20, math.MaxInt, 2),
		"bucket least":     far(7, 20, math.MinInt, 2),
		"error 21":         far(7, 20, 12, 21),
		"error -1":         far(7, 20, 12, -1),
		"error huge":       far(7, 20, 12, math.MaxInt),
		"error least":      far(7, 20, 12, math.MinInt),
		"a room below 0":   room(to(-1, 4)),
		"a room of -1":     room(one(-1)),
		"a room of 100":    room(to(30, 100)),
		"only 100":         room(one(100)),
		"a room reversed":  room(to(5, 4)),
		"a huge room":      room(to(0, math.MaxInt)),
		"only huge":        room(one(math.MaxInt)),
		"huge in all":      room(to(math.MinInt, math.MaxInt)),
		"hugely reversed":  room(to(math.MaxInt, math.MinInt)),
		"hugely negative":  room(one(math.MinInt)),
		"room 0 is 100":    having(b, 0, lot(10, 10, to(0, 100))),
		"bad without more": withBuckets(withSpare(withLots(b, lot(100, 0, one(0))))),
	}
	for name, s := range map[string]api.YardSpot{
		"100 0": at(100, 0), "0 100": at(0, 100), "-1 0": at(-1, 0), "0 -1": at(0, -1),
		"huge 0": at(math.MaxInt, 0), "0 huge": at(0, math.MaxInt), "least 0": at(math.MinInt, 0), "0 least": at(0, math.MinInt),
	} {
		books["a lot at "+name] = l(api.YardLot{At: s, Room: one(1)})
		books["lot 0 at "+name] = having(b, 0, api.YardLot{At: s, Room: one(1)})
		books["a door at "+name] = withDoors(b, s)
		books["door 2 at "+name] = withDoors(b, good, good, s)
		books["a bucket at "+name] = withBuckets(b, s)
		books["bucket 2 at "+name] = withBuckets(b, good, good, s)
		books["a spare at "+name] = withSpare(b, s)
		books["spare 2 at "+name] = withSpare(b, good, good, s)
	}
	return books
}

func rightBooks() map[string]api.YardBook {
	corner := []api.YardSpot{at(99, 99), at(0, 99), at(99, 0)}
	l := lot(99, 99, to(0, 99))
	return map[string]api.YardBook{
		"the example": example(),
		"the least":   {Lots: make([]api.YardLot, 1), Doors: make([]api.YardSpot, 1)},
		"empty lists": {Lots: make([]api.YardLot, 1), Doors: make([]api.YardSpot, 1), Buckets: []api.YardSpot{}, Spare: []api.YardSpot{}},
		"the most": {
			Lots:  []api.YardLot{l, l, l, l, l, l, lot(0, 0, one(99))},
			Doors: corner, Buckets: corner, Spare: corner, Apart: 200, Door: 200, Bucket: 200, Error: 20,
		},
		"one spot": {
			Lots:  make([]api.YardLot, 7),
			Doors: make([]api.YardSpot, 3), Buckets: make([]api.YardSpot, 3), Spare: make([]api.YardSpot, 3),
		},
		"a row": row(5, 0, 1, 98, 99),
	}
}

type result struct {
	e    api.Errno
	zero bool // all other results are zero
}

// allErrors calls each function, with the yard and what else it takes.
func allErrors(b api.YardBook, first, other int, choice []int) map[string]result {
	got := map[string]result{"Check": {yard.Check(b), true}}
	number := func(name string, n int, e api.Errno) { got[name] = result{e, n == 0} }
	list := func(name string, l []int, e api.Errno) { got[name] = result{e, len(l) == 0} }
	n, e := yard.Near(b, first, other)
	number("Near", n, e)
	n, e = yard.Served(b, first)
	number("Served", n, e)
	n, e = yard.Allowed(b, choice)
	number("Allowed", n, e)
	l, e := yard.Best(b)
	list("Best", l, e)
	s, e := yard.Goods(b)
	got["Goods"] = result{e, s == api.Span{}}
	l, e = yard.More(b, choice)
	list("More", l, e)
	p, l, e := yard.Breaks(b, choice)
	got["Breaks"] = result{e, len(p) == 0 && len(l) == 0}
	n, e = yard.Place(b)
	number("Place", n, e)
	l, e = yard.Clear(b, choice)
	list("Clear", l, e)
	return got
}

// TestCheck is of Check of P6.1 and, of the order of errors, P1.
func TestCheck(t *testing.T) {
	for name, b := range rightBooks() {
		for call, got := range allErrors(b, 0, 1, []int{0}) {
			if got.e == api.ErrYard {
				t.Errorf("%s of %s: %d", call, name, got.e)
			}
		}
	}
	for name, b := range wrongBooks() {
		for _, choice := range [][]int{nil, {-1}, {0, 1}} {
			for call, got := range allErrors(b, -1, -1, choice) {
				if got != (result{api.ErrYard, true}) {
					t.Errorf("%s of %s: %v", call, name, got)
				}
			}
		}
	}
}

// TestNear is of Near of P6.1.
func TestNear(t *testing.T) {
	for i, x := range []struct {
		b            api.YardBook
		first, other int
		want         int
		e            api.Errno
	}{
		{example(), 0, 1, 1, api.OK}, {example(), 0, 2, 1, api.OK}, {example(), 1, 2, 0, api.OK}, {example(), 1, 3, 0, api.OK}, // of the chapter
		{example(), 1, 0, 1, api.OK}, {example(), 2, 0, 1, api.OK}, {example(), 3, 1, 0, api.OK},
		// of DOC.md: 8 apart, 2 wrong
		{street(6, 2, 0, 8), 0, 1, 0, api.OK}, {street(7, 2, 0, 8), 0, 1, 1, api.OK}, {street(10, 2, 0, 8), 0, 1, 1, api.OK}, {street(11, 2, 0, 8), 0, 1, 2, api.OK},
		// a distance that is not wrong, columns and rows together, and the farthest ones
		{street(8, 0, 0, 8), 0, 1, 0, api.OK}, {street(9, 0, 0, 8), 0, 1, 2, api.OK}, {far(14, 20, 12, 0), 1, 2, 0, api.OK}, {far(15, 20, 12, 0), 1, 2, 2, api.OK},
		{rightBooks()["the most"], 0, 6, 1, api.OK}, {withLots(far(198, 0, 0, 0), lot(0, 99, one(0)), lot(99, 0, one(0))), 0, 1, 0, api.OK}, {withLots(far(199, 0, 0, 0), lot(0, 99, one(0)), lot(99, 0, one(0))), 1, 0, 2, api.OK},
		// no distance is below 0, also of two lots on one spot
		{street(0, 20, 5, 5), 0, 1, 0, api.OK}, {street(1, 20, 5, 5), 0, 1, 1, api.OK}, {street(1, 0, 5, 5), 0, 1, 2, api.OK}, {street(0, 0, 5, 5), 0, 1, 0, api.OK},
		{street(20, 20, 5, 5), 0, 1, 1, api.OK}, {street(21, 20, 5, 5), 0, 1, 2, api.OK}, {street(0, 20, 5, 6), 0, 1, 0, api.OK}, {street(1, 20, 5, 6), 1, 0, 1, api.OK},
		{example(), 0, 0, 0, api.ErrYardAsk}, {example(), 3, 3, 0, api.ErrYardAsk}, {example(), 0, 4, 0, api.ErrYardAsk}, {example(), 4, 0, 0, api.ErrYardAsk}, {example(), -1, 0, 0, api.ErrYardAsk}, {example(), 0, -1, 0, api.ErrYardAsk},
		{example(), -1, -1, 0, api.ErrYardAsk}, {example(), 4, 4, 0, api.ErrYardAsk}, {example(), 0, math.MaxInt, 0, api.ErrYardAsk}, {example(), math.MinInt, 0, 0, api.ErrYardAsk}, {example(), math.MaxInt, math.MinInt, 0, api.ErrYardAsk},
		{row(5, 1), 0, 1, 0, api.ErrYardAsk}, {row(5, 1), 0, 0, 0, api.ErrYardAsk},
	} {
		if n, e := yard.Near(x.b, x.first, x.other); n != x.want || e != x.e {
			t.Errorf("Near %d: %d, %d", i, n, e)
		}
	}
}

// TestServed is of Served of P6.2.
func TestServed(t *testing.T) {
	dry, two := withBuckets(example()), withBuckets(example(), at(14, 14), at(28, 26))
	ends := func(b api.YardBook) api.YardBook { // the lot 0 is 10 from each of both doors, and 20 from each of both buckets
		return withBuckets(withDoors(withLots(b, lot(10, 0, one(1))), at(0, 0), at(20, 0)), at(0, 10), at(20, 10))
	}
	for i, x := range []struct {
		b    api.YardBook
		lot  int
		want int
		e    api.Errno
	}{
		{example(), 0, 2, api.OK}, {example(), 1, 2, api.OK}, {example(), 2, 2, api.OK}, {example(), 3, 0, api.OK}, // of the chapter
		// the door of the lot 0 is told to be at 4, its bucket at 8
		{far(7, 6, 12, 2), 0, 2, api.OK}, {far(7, 5, 12, 2), 0, 1, api.OK}, {far(7, 2, 12, 2), 0, 1, api.OK}, {far(7, 1, 12, 2), 0, 0, api.OK}, {far(7, 4, 12, 0), 0, 2, api.OK}, {far(7, 3, 12, 0), 0, 0, api.OK},
		{far(7, 20, 10, 2), 0, 2, api.OK}, {far(7, 20, 9, 2), 0, 1, api.OK}, {far(7, 20, 6, 2), 0, 1, api.OK}, {far(7, 20, 5, 2), 0, 0, api.OK}, {far(7, 20, 8, 0), 0, 2, api.OK}, {far(7, 20, 7, 0), 0, 0, api.OK},
		{far(7, 5, 9, 2), 0, 1, api.OK}, {far(7, 5, 5, 2), 0, 0, api.OK}, {far(7, 1, 9, 2), 0, 0, api.OK}, {far(7, 6, 10, 2), 0, 2, api.OK},
		// both are needed
		{dry, 0, 0, api.OK}, {far(7, 40, 12, 2), 3, 0, api.OK}, {far(7, 20, 40, 2), 3, 0, api.OK}, {far(7, 40, 40, 2), 3, 2, api.OK}, {far(200, 200, 200, 20), 3, 2, api.OK},
		// any one does, and no two together do more than one
		{two, 3, 0, api.OK}, {withDoors(two, at(12, 12), at(30, 31)), 3, 2, api.OK}, {withDoors(two, at(30, 31), at(12, 12)), 3, 2, api.OK}, {withDoors(two, at(90, 90), at(99, 99), at(30, 31)), 3, 2, api.OK},
		{ends(far(0, 12, 22, 2)), 0, 2, api.OK}, {ends(far(0, 11, 22, 2)), 0, 1, api.OK}, {ends(far(0, 12, 21, 2)), 0, 1, api.OK}, {ends(far(0, 8, 18, 2)), 0, 1, api.OK}, {ends(far(0, 7, 18, 2)), 0, 0, api.OK}, {ends(far(0, 8, 17, 2)), 0, 0, api.OK},
		// a door is no bucket, nor a bucket a door; what is spare is none; and nothing is nearer than 0
		{withBuckets(withDoors(example(), at(14, 14)), at(99, 99)), 0, 0, api.OK}, {withBuckets(withDoors(example(), at(99, 99)), at(14, 14)), 0, 0, api.OK}, {withSpare(dry, at(10, 10)), 0, 0, api.OK},
		{rightBooks()["one spot"], 6, 2, api.OK}, {street(0, 20, 0), 0, 2, api.OK}, {withLots(far(0, 0, 0, 20), lot(13, 13, one(1))), 0, 1, api.OK}, {withDoors(withBuckets(far(0, 0, 0, 0), at(10, 10)), at(10, 10)), 0, 2, api.OK},
		{example(), 4, 0, api.ErrYardAsk}, {example(), -1, 0, api.ErrYardAsk}, {example(), 7, 0, api.ErrYardAsk}, {example(), math.MaxInt, 0, api.ErrYardAsk}, {example(), math.MinInt, 0, api.ErrYardAsk}, {dry, 4, 0, api.ErrYardAsk},
	} {
		if n, e := yard.Served(x.b, x.lot); n != x.want || e != x.e {
			t.Errorf("Served %d: %d, %d", i, n, e)
		}
	}
}

// TestAllowed is of Allowed of P6.2.
func TestAllowed(t *testing.T) {
	for i, x := range []struct {
		b      api.YardBook
		choice []int
		want   int
	}{
		{example(), nil, 2}, {example(), []int{1, 2}, 2}, {example(), []int{0, 1}, 1}, {example(), []int{0, 3}, 0}, // of the chapter
		{example(), []int{}, 2}, {example(), []int{0}, 2}, {example(), []int{3}, 0}, {example(), []int{0, 1, 2}, 1}, {example(), []int{0, 1, 2, 3}, 0}, {example(), []int{1, 3}, 0}, {example(), []int{0, 2}, 1},
		{far(7, 20, 12, 0), []int{0, 1}, 0}, {far(7, 20, 12, 0), []int{0, 2}, 2}, {far(6, 20, 12, 0), []int{0, 1, 2}, 2}, {far(6, 20, 12, 1), []int{0, 1, 2}, 1}, {far(8, 40, 40, 1), []int{0, 1, 2, 3}, 0}, {far(7, 40, 40, 1), []int{0, 1, 2, 3}, 1}, {far(4, 40, 40, 2), []int{0, 1, 2, 3}, 2},
		// a lot that perhaps is served, alone and with one that surely is
		{far(7, 5, 12, 2), []int{0}, 1}, {far(0, 8, 12, 2), []int{0, 1}, 2}, {far(0, 7, 12, 2), []int{0, 1}, 1}, {far(0, 7, 12, 2), []int{1}, 1}, {far(0, 7, 12, 2), []int{0}, 2}, {far(0, 7, 5, 2), []int{0}, 0},
		{withBuckets(example()), nil, 2}, {withBuckets(example()), []int{0}, 0},
		{row(5, 0, 0, 0, 0, 0, 0, 0), []int{0, 2, 4, 6}, 2}, {row(5, 0, 0, 0, 0, 0, 0, 0), []int{0, 2, 4, 5}, 0}, {row(4, 0, 0, 0, 0, 0, 0, 0), []int{0, 1, 2, 3, 4, 5, 6}, 2},
		{street(6, 2, 0, 8), []int{0, 1}, 2}, {street(7, 2, 0, 8), []int{0, 1}, 1}, {street(11, 2, 0, 8), []int{0, 1}, 0}, // of DOC.md
	} {
		if n, e := yard.Allowed(x.b, x.choice); n != x.want || e != api.OK {
			t.Errorf("Allowed %d: %d, %d", i, n, e)
		}
	}
}

// TestNoChoices is of P6.2, P6.5, P6.6 and P6.8, of lists that are no choices.
func TestNoChoices(t *testing.T) {
	for _, choice := range [][]int{
		{4}, {-1}, {1, 1}, {2, 1}, {0, 1, 2, 3, 4}, {0, 0}, {3, 3}, {3, 2, 1, 0}, {0, 2, 1}, {0, 1, 1}, {-1, 0}, {0, -1}, {7}, {6}, {math.MaxInt}, {math.MinInt}, {0, math.MaxInt}, {3, math.MinInt},
		{0, 1, 2, 3, 3}, {0, 1, 2, 3, 0}, make([]int, 100000),
	} {
		got := allErrors(example(), 0, 1, choice)
		for _, call := range []string{"Allowed", "More", "Breaks", "Clear"} {
			if got[call] != (result{api.ErrYardAsk, true}) {
				t.Errorf("%s of %v: %v", call, choice, got[call])
			}
		}
		for _, call := range []string{"Check", "Near", "Served", "Best", "Goods"} {
			if got[call].e != api.OK {
				t.Errorf("%s: %v", call, got[call])
			}
		}
	}
}

// TestBest is of P6.3 and P6.4.
func TestBest(t *testing.T) {
	sure := having(having(row(5, 0, 0), 0, lot(0, 0, to(5, 9))), 1, lot(4, 0, to(6, 7))) // the one has more at least, the other one at most
	wide := withLots(far(5, 200, 200, 1), lot(0, 0, one(3)), lot(5, 0, to(3, 4)), lot(9, 0, one(4)))
	for i, x := range []struct {
		b     api.YardBook
		best  []int
		goods api.Span
	}{
		{example(), []int{1, 2}, to(42, 75)}, // of the chapter
		{far(7, 40, 12, 2), []int{1, 2}, to(42, 75)}, {far(7, 20, 12, 0), []int{1, 2}, to(42, 50)}, {far(6, 20, 12, 0), []int{0, 1, 2}, to(62, 75)}, {far(7, 40, 40, 2), []int{1, 2, 3}, to(82, 125)}, {far(4, 40, 40, 2), []int{0, 1, 2, 3}, to(102, 125)},
		// nothing is served, or only perhaps
		{withBuckets(example()), nil, one(0)}, {far(7, 20, 0, 2), nil, one(0)}, {far(7, 1, 12, 2), nil, one(0)}, {far(7, 5, 9, 2), nil, to(0, 55)},
		// more goods come before fewer lots, and fewer lots before the first one
		{row(5, 3, 6, 3), []int{1}, one(6)}, {row(5, 3, 5, 3), []int{0, 2}, one(6)}, {row(5, 3, 7, 3), []int{1}, one(7)}, {row(5, 2, 2, 1, 1, 4), []int{0, 2, 4}, one(7)}, {row(5, 1, 2, 2, 4, 2, 2, 1), []int{1, 3, 5}, one(8)},
		{row(5, 1, 2, 1, 0), []int{1}, one(2)}, {row(5, 3, 3, 0, 6), []int{0, 3}, one(9)}, {row(9, 2, 4, 2, 3), []int{0, 3}, one(5)}, {row(9, 2, 5, 2, 3), []int{1}, one(5)}, {row(9, 2, 6, 2, 4), []int{1}, one(6)}, {row(9, 1, 1, 2, 1), []int{2}, one(2)},
		// of as many the first one, element by element
		{row(5, 2, 2, 2, 2), []int{0, 2}, one(4)}, {row(5, 1, 1), []int{0}, one(1)}, {row(5, 1, 2, 2), []int{0, 2}, one(3)}, {row(5, 2, 2, 1), []int{0, 2}, one(3)}, {row(5, 1, 3, 3, 1), []int{0, 2}, one(4)}, {row(13, 1, 2, 3, 3), []int{2}, one(3)}, {row(9, 1, 1, 2, 2, 3), []int{0, 4}, one(4)}, {row(9, 1, 2, 2, 2, 3), []int{1, 4}, one(5)},
		// a lot without goods is left
		{row(0, 1, 0, 2), []int{0, 2}, one(3)}, {row(9, 0, 0), nil, one(0)}, {row(0, 0, 0, 0), nil, one(0)}, {row(0, 0), nil, one(0)}, {row(0, 7), []int{0}, one(7)},
		{withLots(row(0), lot(0, 0, to(0, 9)), lot(1, 0, to(1, 2))), []int{1}, to(1, 11)},
		// the goods at least decide; those at most may be those of another choice, also of one that only perhaps is allowed
		{sure, []int{1}, to(6, 9)}, {having(sure, 1, lot(4, 0, to(5, 99))), []int{0}, to(5, 99)}, {wide, []int{0, 2}, to(7, 11)},
		{rightBooks()["the most"], []int{6}, to(99, 198)}, {rightBooks()["one spot"], nil, one(0)}, {row(0, 99, 99, 99, 99, 99, 99, 99), []int{0, 1, 2, 3, 4, 5, 6}, one(693)},
	} {
		if l, e := yard.Best(x.b); !slices.Equal(l, x.best) || e != api.OK {
			t.Errorf("Best %d: %v, %d", i, l, e)
		}
		if s, e := yard.Goods(x.b); s != x.goods || e != api.OK {
			t.Errorf("Goods %d: %v, %d", i, s, e)
		}
	}
}

// TestMore is of P6.5.
func TestMore(t *testing.T) {
	for i, x := range []struct {
		b      api.YardBook
		choice []int
		want   []int
		e      api.Errno
	}{
		{example(), []int{1}, []int{2}, api.OK}, {example(), []int{0}, nil, api.OK}, {example(), []int{0, 1}, nil, api.ErrNone}, // of the chapter
		{example(), nil, []int{0, 1, 2}, api.OK}, {example(), []int{2}, []int{1}, api.OK}, {example(), []int{1, 2}, nil, api.OK}, {example(), []int{3}, nil, api.ErrNone}, {example(), []int{0, 1, 2, 3}, nil, api.ErrNone},
		{far(7, 40, 40, 2), []int{1}, []int{2, 3}, api.OK}, {far(7, 40, 40, 2), []int{3}, []int{0, 1, 2}, api.OK}, {far(7, 40, 40, 2), []int{1, 3}, []int{2}, api.OK},
		// each alone: two that can be added need not be so together
		{row(5, 0, 0, 0, 0), nil, []int{0, 1, 2, 3}, api.OK}, {row(5, 0, 0, 0, 0), []int{0}, []int{2, 3}, api.OK}, {row(5, 0, 0, 0, 0), []int{1}, []int{3}, api.OK}, {row(5, 0, 0, 0, 0), []int{0, 3}, nil, api.OK},
		{row(0, 0, 0, 0, 0), []int{1, 2}, []int{0, 3}, api.OK}, {row(0, 0, 0, 0, 0), []int{0, 1, 2, 3}, nil, api.OK}, {row(5, 1, 1), []int{0, 1}, nil, api.ErrNone},
		{withBuckets(example()), nil, nil, api.OK}, {withBuckets(example()), []int{0}, nil, api.ErrNone}, {far(7, 5, 12, 2), nil, nil, api.OK}, {far(7, 5, 12, 2), []int{0}, nil, api.ErrNone},
	} {
		if l, e := yard.More(x.b, x.choice); !slices.Equal(l, x.want) || e != x.e {
			t.Errorf("More %d: %v, %d", i, l, e)
		}
	}
}

// TestBreaks is of P6.6.
func TestBreaks(t *testing.T) {
	dry := withBuckets(example())
	for i, x := range []struct {
		b      api.YardBook
		choice []int
		pairs  []api.YardPair
		lots   []int
	}{
		{example(), []int{0, 1, 2, 3}, []api.YardPair{pair(0, 1), pair(0, 2)}, []int{3}}, // of the chapter
		{example(), nil, nil, nil}, {example(), []int{1, 2}, nil, nil}, {example(), []int{3}, nil, []int{3}}, {example(), []int{0, 2}, []api.YardPair{pair(0, 2)}, nil}, {example(), []int{1, 2, 3}, nil, []int{3}},
		{dry, []int{0, 2}, []api.YardPair{pair(0, 2)}, []int{0, 2}}, {dry, nil, nil, nil}, {dry, []int{1, 3}, nil, []int{1, 3}},
		// what surely is wrong, and what perhaps is
		{far(7, 20, 12, 0), []int{0, 1, 2}, []api.YardPair{pair(0, 1)}, nil}, {far(6, 7, 12, 1), []int{0, 1, 2, 3}, []api.YardPair{pair(0, 1)}, []int{2, 3}}, {far(6, 5, 12, 2), []int{0, 1}, []api.YardPair{pair(0, 1)}, []int{0, 1}},
		{row(5, 0, 0, 0, 0), []int{0, 1, 2, 3}, []api.YardPair{pair(0, 1), pair(1, 2), pair(2, 3)}, nil}, {row(9, 0, 0, 0, 0), []int{0, 1, 2, 3}, []api.YardPair{pair(0, 1), pair(0, 2), pair(1, 2), pair(1, 3), pair(2, 3)}, nil},
		{row(5, 0, 0, 0, 0), []int{0, 2, 3}, []api.YardPair{pair(2, 3)}, nil}, {row(12, 0, 0, 0, 0), []int{0, 3}, nil, nil}, {row(13, 0, 0, 0, 0), []int{0, 3}, []api.YardPair{pair(0, 3)}, nil},
	} {
		if p, l, e := yard.Breaks(x.b, x.choice); !slices.Equal(p, x.pairs) || !slices.Equal(l, x.lots) || e != api.OK {
			t.Errorf("Breaks %d: %v, %v, %d", i, p, l, e)
		}
	}
}

// TestPlace is of P6.7.
func TestPlace(t *testing.T) {
	tall := far(7, 40, 12, 2)
	dry := withBuckets(example())
	full := withBuckets(tall, at(14, 14), at(14, 14), at(99, 0))
	for i, x := range []struct {
		b    api.YardBook
		want int
		e    api.Errno
	}{
		{example(), 0, api.ErrNone}, {tall, 0, api.OK}, // of the chapter
		{withSpare(tall), 0, api.ErrNone}, {withSpare(tall, at(14, 14)), 0, api.ErrNone}, {withSpare(tall, at(14, 14), at(99, 99), at(28, 26)), 2, api.OK}, {withSpare(tall, at(28, 26), at(30, 30), at(28, 26)), 0, api.OK},
		{withSpare(tall, at(99, 99), at(30, 40), at(30, 39)), 1, api.OK}, {withSpare(tall, at(30, 41), at(30, 42)), 0, api.ErrNone}, // 12 is enough if 10 are told
		{withSpare(dry, at(90, 90), at(10, 18), at(14, 14)), 2, api.OK}, {withSpare(dry, at(14, 14), at(13, 13), at(14, 14)), 0, api.OK}, {withSpare(dry, at(10, 26), at(14, 14)), 1, api.OK}, {withSpare(dry, at(10, 26)), 0, api.OK},
		// a fourth bucket
		{full, 0, api.OK}, {withSpare(full, at(99, 99), at(99, 0), at(30, 30)), 2, api.OK}, {withSpare(full, at(99, 99), at(14, 14), at(99, 0)), 0, api.ErrNone},
		// more lots that are served do not help if they are too near, or have no goods
		{withSpare(withBuckets(row(5, 3, 3), at(0, 0)), at(4, 0)), 0, api.ErrNone}, {withSpare(row(0, 0, 0), at(4, 0)), 0, api.ErrNone}, {withSpare(withBuckets(row(0, 0, 0)), at(4, 0)), 0, api.ErrNone},
		// the goods at least decide
		{api.YardBook{
			Lots:  []api.YardLot{lot(0, 0, to(1, 99)), lot(50, 0, to(2, 3))},
			Doors: []api.YardSpot{at(0, 0)}, Spare: []api.YardSpot{at(0, 0), at(50, 0)}, Door: 200, Bucket: 5,
		}, 1, api.OK},
	} {
		if n, e := yard.Place(x.b); n != x.want || e != x.e {
			t.Errorf("Place %d: %d, %d", i, n, e)
		}
	}
}

// TestClear is of P6.8 and, by example, of P6.13.
func TestClear(t *testing.T) {
	for i, x := range []struct {
		b      api.YardBook
		choice []int
		want   []int
	}{
		{example(), []int{0, 1, 2}, []int{0}}, {example(), []int{1, 2}, nil}, // of the chapter
		{example(), nil, nil}, {example(), []int{0, 1}, []int{0}}, {example(), []int{0, 1, 2, 3}, []int{0, 3}}, {example(), []int{3}, []int{3}}, {example(), []int{0, 3}, []int{3}}, {withBuckets(example()), []int{0, 2}, []int{0, 2}}, {withBuckets(example()), []int{0, 1, 2, 3}, []int{0, 1, 2, 3}},
		// the fewest lots, however many goods they have, and of as many the first ones
		{row(5, 9, 9), []int{0, 1}, []int{0}}, {row(5, 1, 9, 1), []int{0, 1, 2}, []int{1}}, {row(5, 2, 2, 2, 2), []int{0, 1, 2, 3}, []int{0, 2}}, {row(9, 2, 2, 2, 2), []int{0, 1, 2, 3}, []int{1, 2}}, {row(12, 2, 2, 2, 2), []int{0, 1, 2, 3}, []int{1, 2}}, {row(13, 2, 2, 2, 2), []int{0, 1, 2, 3}, []int{0, 1, 2}},
		{row(5, 1, 1, 1, 1, 1), []int{0, 1, 2, 3, 4}, []int{1, 3}}, {row(5, 1, 1, 1, 1, 1, 1), []int{0, 1, 2, 3, 4, 5}, []int{0, 2, 4}}, {row(5, 1, 1, 1, 1, 1, 1), []int{0, 1, 3, 4, 5}, []int{0, 4}}, {row(5, 1, 1, 1, 1, 1, 1), []int{0, 2, 4, 5}, []int{4}},
		{row(5, 1, 1, 1, 1, 1, 1, 1), []int{0, 1, 2, 3, 4, 5, 6}, []int{1, 3, 5}}, {row(200, 1, 1, 1, 1, 1, 1, 1), []int{0, 1, 2, 3, 4, 5, 6}, []int{0, 1, 2, 3, 4, 5}}, {row(0, 1, 1, 1), []int{0, 1, 2}, nil},
	} {
		if l, e := yard.Clear(x.b, x.choice); !slices.Equal(l, x.want) || e != api.OK {
			t.Errorf("Clear %d: %v, %d", i, l, e)
		}
	}
}
