package yard_test

import (
	"iter"
	"math/rand"
	"slices"

	"lucifer/api"
)

// What follows computes from the definitions alone, by trying out everything: the tests hold the package against it.

func differ(a, b int) int {
	if a < b {
		return b - a
	}
	return a - b
}

// distances returns all true distances that two spots can have.
func distances(b api.YardBook, one, other api.YardSpot) []int {
	told := differ(one.X, other.X) + differ(one.Y, other.Y)
	var all []int
	for n := range told + b.Error + 1 {
		if differ(n, told) <= b.Error {
			all = append(all, n)
		}
	}
	return all
}

// truth is one of a yard.
type truth struct {
	room    [api.YardLots]int
	between [api.YardLots][api.YardLots]int // of two lots, the lesser number first
	doors   [api.YardLots][api.YardSpots]int
	buckets [api.YardLots][api.YardSpots]int
}

// slot is a number of a truth, with all that it can be.
type slot struct {
	number *int
	all    []int
}

// slots returns all numbers of a truth.
func slots(b api.YardBook, t *truth) []slot {
	var all []slot
	for i, l := range b.Lots {
		var rooms []int
		for n := l.Room.Low; n <= l.Room.High; n++ {
			rooms = append(rooms, n)
		}
		all = append(all, slot{&t.room[i], rooms})
		for k := i + 1; k < len(b.Lots); k++ {
			all = append(all, slot{&t.between[i][k], distances(b, l.At, b.Lots[k].At)})
		}
		for k, s := range b.Doors {
			all = append(all, slot{&t.doors[i][k], distances(b, l.At, s)})
		}
		for k, s := range b.Buckets {
			all = append(all, slot{&t.buckets[i][k], distances(b, l.At, s)})
		}
	}
	return all
}

// truths returns how many truths a yard has.
func truths(b api.YardBook) int {
	n := 1
	for _, s := range slots(b, &truth{}) {
		n *= len(s.all)
	}
	return n
}

// allTruths produces all truths of a yard.
func allTruths(b api.YardBook) iter.Seq[*truth] {
	return func(yield func(*truth) bool) {
		var t truth
		var set func(rest []slot) bool
		set = func(rest []slot) bool {
			if len(rest) == 0 {
				return yield(&t)
			}
			for _, n := range rest[0].all {
				*rest[0].number = n
				if !set(rest[1:]) {
					return false
				}
			}
			return true
		}
		set(slots(b, &t))
	}
}

// someTruth returns a truth, many of whose numbers are the least or the greatest ones that they can be.
func someTruth(r *rand.Rand, b api.YardBook) *truth {
	t := new(truth)
	for _, s := range slots(b, t) {
		*s.number = s.all[r.Intn(len(s.all))]
		switch r.Intn(3) {
		case 0:
			*s.number = s.all[0]
		case 1:
			*s.number = s.all[len(s.all)-1]
		}
	}
	return t
}

// nearIn reports whether two lots, the lesser number first, are too near in a truth.
func nearIn(b api.YardBook, t *truth, one, other int) bool { return t.between[one][other] < b.Apart }

// servedIn reports whether a lot is near enough to a door and to a bucket in a truth.
func servedIn(b api.YardBook, t *truth, lot int) bool {
	door, bucket := false, false
	for k := range b.Doors {
		door = door || t.doors[lot][k] <= b.Door
	}
	for k := range b.Buckets {
		bucket = bucket || t.buckets[lot][k] <= b.Bucket
	}
	return door && bucket
}

func allowedIn(b api.YardBook, t *truth, choice []int) bool {
	for i, one := range choice {
		if !servedIn(b, t, one) {
			return false
		}
		for _, other := range choice[i+1:] {
			if nearIn(b, t, one, other) {
				return false
			}
		}
	}
	return true
}

func goodsIn(t *truth, choice []int) int {
	n := 0
	for _, lot := range choice {
		n += t.room[lot]
	}
	return n
}

// grade returns 2 if something is so each time, 1 if now and then, and 0 if never.
func grade(is, all int) int {
	switch is {
	case all:
		return 2
	case 0:
		return 0
	}
	return 1
}

// known is a yard with what is so of each two lots, and of each lot, as Near and Served tell it.
type known struct {
	api.YardBook
	near   [api.YardLots][api.YardLots]int
	served [api.YardLots]int
}

func know(b api.YardBook) known {
	k := known{YardBook: b}
	for i, l := range b.Lots {
		for j, o := range b.Lots {
			near, all := 0, distances(b, l.At, o.At)
			for _, n := range all {
				if n < b.Apart {
					near++
				}
			}
			k.near[i][j] = grade(near, len(all))
		}
		k.served[i] = min(reached(b, l.At, b.Doors, b.Door), reached(b, l.At, b.Buckets, b.Bucket))
	}
	return k
}

// reached tells whether a spot is at most so far from some of several ones, by trying out all distances from all of them.
func reached(b api.YardBook, from api.YardSpot, spots []api.YardSpot, most int) int {
	is, all := 0, 0
	var try func(rest []api.YardSpot, found bool)
	try = func(rest []api.YardSpot, found bool) {
		if len(rest) == 0 {
			all++
			if found {
				is++
			}
			return
		}
		for _, n := range distances(b, from, rest[0]) {
			try(rest[1:], found || n <= most)
		}
	}
	try(spots, false)
	if is == 0 {
		return 0
	}
	return grade(is, all)
}

// allChoices returns all choices of so many lots, in their order.
func allChoices(lots int) [][]int {
	var all [][]int
	for set := range 1 << lots {
		var choice []int
		for lot := range lots {
			if set>>lot&1 == 1 {
				choice = append(choice, lot)
			}
		}
		all = append(all, choice)
	}
	slices.SortFunc(all, slices.Compare)
	return all
}

func (k known) allowed(choice []int) int {
	n := 2
	for i, one := range choice {
		n = min(n, k.served[one])
		for _, other := range choice[i+1:] {
			n = min(n, 2-k.near[one][other])
		}
	}
	return n
}

func (k known) goods(choice []int) api.Span {
	var s api.Span
	for _, lot := range choice {
		s = to(s.Low+k.Lots[lot].Room.Low, s.High+k.Lots[lot].Room.High)
	}
	return s
}

func (k known) best() []int {
	all := slices.DeleteFunc(allChoices(len(k.Lots)), func(choice []int) bool { return k.allowed(choice) < 2 })
	return slices.MinFunc(all, func(a, b []int) int { // the first one of equal ones
		if x, y := k.goods(a).Low, k.goods(b).Low; x != y {
			return y - x
		}
		return len(a) - len(b)
	})
}

func (k known) most() api.Span {
	var s api.Span
	for _, choice := range allChoices(len(k.Lots)) {
		g := k.goods(choice)
		switch k.allowed(choice) {
		case 2:
			s = to(max(s.Low, g.Low), max(s.High, g.High))
		case 1:
			s.High = max(s.High, g.High)
		}
	}
	return s
}

// and returns a choice with one lot more.
func and(choice []int, lot int) []int {
	more := append(slices.Clone(choice), lot)
	slices.Sort(more)
	return more
}

// without returns the lots of a choice that are not in another one.
func without(choice, gone []int) []int {
	return slices.DeleteFunc(slices.Clone(choice), func(lot int) bool { return slices.Contains(gone, lot) })
}

func (k known) more(choice []int) []int {
	var more []int
	for lot := range k.Lots {
		if !slices.Contains(choice, lot) && k.allowed(and(choice, lot)) == 2 {
			more = append(more, lot)
		}
	}
	return more
}

func (k known) breaks(choice []int) ([]api.YardPair, []int) {
	var pairs []api.YardPair
	var lots []int
	for one := range k.Lots {
		for other := one + 1; other < len(k.Lots); other++ {
			if slices.Contains(choice, one) && slices.Contains(choice, other) && k.near[one][other] > 0 {
				pairs = append(pairs, api.YardPair{One: one, Other: other})
			}
		}
		if slices.Contains(choice, one) && k.served[one] < 2 {
			lots = append(lots, one)
		}
	}
	return pairs, lots
}

// parts returns all parts of a choice, shorter ones first, and those of one length in their order.
func parts(choice []int) [][]int {
	all := allChoices(len(choice))
	for _, part := range all {
		for i, k := range part {
			part[i] = choice[k]
		}
	}
	slices.SortStableFunc(all, func(a, b []int) int { return len(a) - len(b) })
	return all
}

func (k known) clear(choice []int) []int {
	for _, gone := range parts(choice) {
		if k.allowed(without(choice, gone)) == 2 {
			return gone
		}
	}
	return nil
}

func (k known) place() (int, api.Errno) {
	place, most, e := 0, k.most().Low, api.ErrNone
	for i, s := range k.Spare {
		b := k.YardBook
		b.Buckets = append(slices.Clone(b.Buckets), s)
		if n := know(b).most().Low; n > most {
			place, most, e = i, n, api.OK
		}
	}
	return place, e
}

// someSpots returns so many spots near the corner of a yard.
func someSpots(r *rand.Rand, n, side int) []api.YardSpot {
	var all []api.YardSpot
	for range n {
		all = append(all, at(r.Intn(side), r.Intn(side)))
	}
	return all
}

// someBook returns a valid yard of so many lots, whose distances can be wrong by so much.
func someBook(r *rand.Rand, lots, wrong int) api.YardBook {
	side := 4 + r.Intn(14)
	b := api.YardBook{
		Doors: someSpots(r, 1+r.Intn(3), side), Buckets: someSpots(r, r.Intn(4), side), Spare: someSpots(r, r.Intn(4), side),
		Apart: r.Intn(side), Door: side/2 + wrong + r.Intn(side), Bucket: side/3 + wrong + r.Intn(side), Error: wrong,
	}
	for _, s := range someSpots(r, lots, side) {
		low := r.Intn(6)
		b.Lots = append(b.Lots, api.YardLot{At: s, Room: to(low, low+r.Intn(5))})
	}
	return b
}

// tinyBook returns a valid yard that has so few truths that all of them can be tried out.
func tinyBook(r *rand.Rand) api.YardBook {
	for {
		b := api.YardBook{
			Doors: someSpots(r, 1+r.Intn(2), 4), Buckets: someSpots(r, (1+r.Intn(5))/2, 4),
			Apart: r.Intn(6), Door: 2 + r.Intn(6), Bucket: 2 + r.Intn(6), Error: (1 + r.Intn(5)) / 2,
		}
		for _, s := range someSpots(r, 1+r.Intn(3), 5) {
			low := r.Intn(4)
			b.Lots = append(b.Lots, api.YardLot{At: s, Room: to(low, low+r.Intn(2))})
		}
		if n := truths(b); n > 30 && n <= 40000 {
			return b
		}
	}
}

// someBooks returns the same yards at each call.
func someBooks(n int) []api.YardBook {
	r := rand.New(rand.NewSource(1))
	var books []api.YardBook
	for i := range n {
		b := someBook(r, 1+i%api.YardLots, r.Intn(3))
		if i%5 == 0 { // far more can be wrong, if there are few ways to try out
			b.Error = r.Intn(api.YardError + 1)
			b.Doors, b.Buckets, b.Spare = b.Doors[:1], b.Buckets[:min(1, len(b.Buckets))], b.Spare[:min(1, len(b.Spare))]
			b.Apart, b.Door, b.Bucket = r.Intn(20), b.Error+r.Intn(24), b.Error+r.Intn(24)
		}
		books = append(books, b)
	}
	return books
}

// someChoice returns a choice of a yard.
func someChoice(r *rand.Rand, b api.YardBook) []int {
	all := allChoices(len(b.Lots))
	return all[r.Intn(len(all))]
}
