package insure_test

import (
	"iter"
	"math/rand"
	"slices"

	"lucifer/api"
)

// What follows computes from the definitions alone, by trying out everything: the tests hold the package against it.

func differ(a, b int) int {
	if a < b {
		return b - a
	}
	return a - b
}

// distances returns all true distances that two spots can have.
func distances(y api.YardBook, one, other api.YardSpot) []int {
	told := differ(one.X, other.X) + differ(one.Y, other.Y)
	var all []int
	for n := range told + y.Error + 1 {
		if differ(n, told) <= y.Error {
			all = append(all, n)
		}
	}
	return all
}

// truth is one of a book.
type truth struct {
	room    [api.YardLots]int
	between [api.YardLots][api.YardLots]int // of two lots, the lesser number first
	doors   [api.YardLots][api.YardSpots]int
	buckets [api.YardLots][api.YardSpots + 1]int
	damps   [api.TunnelParts]int
}

// slot is a number of a truth, with all that it can be.
type slot struct {
	number *int
	all    []int
}

// numbers returns all numbers of a span.
func numbers(s api.Span) []int {
	var all []int
	for n := s.Low; n <= s.High; n++ {
		all = append(all, n)
	}
	return all
}

// slots returns all numbers of a truth.
func slots(b api.InsureBook, t *truth) []slot {
	var all []slot
	y := b.Yard
	for i, l := range y.Lots {
		all = append(all, slot{&t.room[i], numbers(l.Room)})
		for k := i + 1; k < len(y.Lots); k++ {
			all = append(all, slot{&t.between[i][k], distances(y, l.At, y.Lots[k].At)})
		}
		for k, s := range y.Doors {
			all = append(all, slot{&t.doors[i][k], distances(y, l.At, s)})
		}
		for k, s := range y.Buckets {
			all = append(all, slot{&t.buckets[i][k], distances(y, l.At, s)})
		}
	}
	for i, p := range b.Tunnel.Parts {
		all = append(all, slot{&t.damps[i], numbers(p.Damp)})
	}
	return all
}

// truths returns how many truths a book has.
func truths(b api.InsureBook) int {
	n := 1
	for _, s := range slots(b, &truth{}) {
		n *= len(s.all)
	}
	return n
}

// allTruths produces all truths of a book.
func allTruths(b api.InsureBook) iter.Seq[*truth] {
	return func(yield func(*truth) bool) {
		var t truth
		var set func(rest []slot) bool
		set = func(rest []slot) bool {
			if len(rest) == 0 {
				return yield(&t)
			}
			for _, n := range rest[0].all {
				*rest[0].number = n
				if !set(rest[1:]) {
					return false
				}
			}
			return true
		}
		set(slots(b, &t))
	}
}

// someTruth returns a truth, many of whose numbers are the least or the greatest ones that they can be.
func someTruth(r *rand.Rand, b api.InsureBook) *truth {
	t := new(truth)
	for _, s := range slots(b, t) {
		*s.number = s.all[r.Intn(len(s.all))]
		switch r.Intn(3) {
		case 0:
			*s.number = s.all[0]
		case 1:
			*s.number = s.all[len(s.all)-1]
		}
	}
	return t
}

// dryIn returns how dry a frame is by a setting, with these damps.
func dryIn(b api.TunnelBook, damps [api.TunnelParts]int, set []int, frame int) int {
	dry := 0
	for i, p := range b.Parts {
		if minute := p.Heat[set[i]] - damps[i]; minute > 0 {
			dry += b.Frames[frame].Stay[i] * minute
		}
	}
	return dry
}

// undried returns how many frames are not dry in time by a setting, with these damps.
func undried(b api.TunnelBook, damps [api.TunnelParts]int, set []int) int {
	n := 0
	for i, f := range b.Frames {
		if dry := dryIn(b, damps, set, i); dry < f.Need.Low || dry > f.Need.High {
			n++
		}
	}
	return n
}

func heatOf(b api.TunnelBook, set []int) int {
	heat := 0
	for i, p := range b.Parts {
		heat += p.Heat[set[i]]
	}
	return heat
}

// servedIn reports whether a lot is near enough to a door and to a bucket in a truth.
func servedIn(y api.YardBook, t *truth, lot int) bool {
	door, bucket := false, false
	for k := range y.Doors {
		door = door || t.doors[lot][k] <= y.Door
	}
	for k := range y.Buckets {
		bucket = bucket || t.buckets[lot][k] <= y.Bucket
	}
	return door && bucket
}

// nearIn reports whether two lots are too near to each other in a truth.
func nearIn(y api.YardBook, t *truth, one, other int) bool {
	return t.between[min(one, other)][max(one, other)] < y.Apart
}

// countsIn returns how many there are of each cause in a truth.
func countsIn(b api.InsureBook, t *truth, p api.InsurePlan) [5]int {
	n := [5]int{3: heatOf(b.Tunnel, p.Set), 4: undried(b.Tunnel, t.damps, p.Set)}
	for i, lot := range p.Choice {
		n[0] += t.room[lot]
		for _, other := range p.Choice[i+1:] {
			if nearIn(b.Yard, t, lot, other) {
				n[1]++
			}
		}
		if !servedIn(b.Yard, t, lot) {
			n[2]++
		}
	}
	return n
}

// asked returns what is asked for so many of each cause.
func asked(b api.InsureBook, n [5]int) int {
	r := b.Rates
	return n[0]*r.Good + n[1]*r.Near + n[2]*r.Served + n[3]*r.Heat + n[4]*r.Frame
}

// burnIn returns all lots of a choice, increasing, that burn in a truth if one does.
func burnIn(b api.InsureBook, t *truth, choice []int, lot int) []int {
	burning := []int{lot}
	for more := true; more; {
		more = false
		for _, other := range choice {
			if !slices.Contains(burning, other) && slices.ContainsFunc(burning, func(one int) bool { return nearIn(b.Yard, t, one, other) }) {
				burning, more = append(burning, other), true
			}
		}
	}
	slices.Sort(burning)
	return burning
}

// goodsIn returns how many goods some lots have in a truth.
func goodsIn(t *truth, lots []int) int {
	n := 0
	for _, lot := range lots {
		n += t.room[lot]
	}
	return n
}

// between is the least and the greatest one of several numbers.
type between struct {
	api.Span
	some bool
}

func (s *between) add(n int) {
	if !s.some {
		*s = between{one(n), true}
	}
	s.Low, s.High = min(s.Low, n), max(s.High, n)
}

// facts is what all truths tell of a plan.
type facts struct {
	premium      between
	counts       [5]between
	all, fitting int             // truths
	losses       map[int]between // by the lot that burns
	burning      map[[2]int]int  // by the lot that burns, and another one: in how many truths this one does, too
}

// factsOf tries out all truths.
func factsOf(b api.InsureBook, p api.InsurePlan) facts {
	f := facts{losses: map[int]between{}, burning: map[[2]int]int{}}
	for t := range allTruths(b) {
		n := countsIn(b, t, p)
		f.premium.add(asked(b, n))
		for i := range n {
			f.counts[i].add(n[i])
		}
		f.all++
		if n[1] == 0 && n[2] == 0 && n[4] == 0 {
			f.fitting++
		}
		for _, lot := range p.Choice {
			burning := burnIn(b, t, p.Choice, lot)
			loss := f.losses[lot]
			loss.add(goodsIn(t, burning))
			f.losses[lot] = loss
			for _, other := range burning {
				f.burning[[2]int{lot, other}]++
			}
		}
	}
	return f
}

// spans returns how many there are of each cause.
func (f facts) spans() []api.Span {
	var all []api.Span
	for _, n := range f.counts {
		all = append(all, n.Span)
	}
	return all
}

// burns returns all lots that burn with one in each truth, and in some.
func (f facts) burns(choice []int, lot int) (surely, perhaps []int) {
	for _, other := range choice {
		n := f.burning[[2]int{lot, other}]
		if n == f.all {
			surely = append(surely, other)
		}
		if n > 0 {
			perhaps = append(perhaps, other)
		}
	}
	return surely, perhaps
}

// grade returns 2 if something is so each time, 1 if now and then, and 0 if never.
func grade(is, all int) int {
	switch is {
	case 0:
		return 0
	case all:
		return 2
	}
	return 1
}

// known is a book with what is so of each two lots, and of each lot, by trying out all of their distances.
type known struct {
	api.InsureBook
	near   [api.YardLots][api.YardLots]int
	served [api.YardLots]int
	wet    map[[api.TunnelParts]int]between // how many frames are not dry in time, by a setting
}

func know(b api.InsureBook) known {
	k := known{InsureBook: b, wet: map[[api.TunnelParts]int]between{}}
	y := b.Yard
	for i, l := range y.Lots {
		for j, o := range y.Lots {
			near, all := 0, distances(y, l.At, o.At)
			for _, n := range all {
				if n < y.Apart {
					near++
				}
			}
			k.near[i][j] = grade(near, len(all))
		}
		k.served[i] = min(reached(y, l.At, y.Doors, y.Door), reached(y, l.At, y.Buckets, y.Bucket))
	}
	return k
}

// reached tells whether a spot is at most so far from some of several ones, by trying out all distances from all of them.
func reached(y api.YardBook, from api.YardSpot, spots []api.YardSpot, most int) int {
	is, all := 0, 0
	var try func(rest []api.YardSpot, found bool)
	try = func(rest []api.YardSpot, found bool) {
		if len(rest) == 0 {
			all++
			if found {
				is++
			}
			return
		}
		for _, n := range distances(y, from, rest[0]) {
			try(rest[1:], found || n <= most)
		}
	}
	try(spots, false)
	return grade(is, all)
}

// undried returns how many frames are not dry in time by a setting, of all damps.
func (k known) undried(set []int) api.Span {
	var key [api.TunnelParts]int
	copy(key[:], set)
	n, found := k.wet[key]
	if found {
		return n.Span
	}
	var damps [api.TunnelParts]int
	var try func(part int)
	try = func(part int) {
		if part == len(set) {
			n.add(undried(k.Tunnel, damps, set))
			return
		}
		for _, damps[part] = range numbers(k.Tunnel.Parts[part].Damp) {
			try(part + 1)
		}
	}
	try(0)
	k.wet[key] = n
	return n.Span
}

// causes returns how many there are of each cause.
func (k known) causes(p api.InsurePlan) []api.Span {
	all := []api.Span{{}, {}, {}, one(heatOf(k.Tunnel, p.Set)), k.undried(p.Set)}
	for i, lot := range p.Choice {
		room := k.Yard.Lots[lot].Room
		all[0] = to(all[0].Low+room.Low, all[0].High+room.High)
		for _, other := range p.Choice[i+1:] {
			switch k.near[lot][other] {
			case 2:
				all[1] = to(all[1].Low+1, all[1].High+1)
			case 1:
				all[1].High++
			}
		}
		switch k.served[lot] {
		case 0:
			all[2] = to(all[2].Low+1, all[2].High+1)
		case 1:
			all[2].High++
		}
	}
	return all
}

func (k known) premium(p api.InsurePlan) api.Span {
	var low, high [5]int
	for i, n := range k.causes(p) {
		low[i], high[i] = n.Low, n.High
	}
	return to(asked(k.InsureBook, low), asked(k.InsureBook, high))
}

func (k known) fits(p api.InsurePlan) int {
	n := k.causes(p)
	switch {
	case n[1].Low > 0 || n[2].Low > 0 || n[4].Low > 0:
		return 0
	case n[1].High > 0 || n[2].High > 0 || n[4].High > 0:
		return 1
	}
	return 2
}

// burns returns all lots of a choice that burn with one if fire goes wherever it does as surely as is told.
func (k known) burns(choice []int, lot, least int) []int {
	var goes [api.YardLots][api.YardLots]bool
	for _, i := range choice {
		for _, j := range choice {
			goes[i][j] = i == j || k.near[i][j] >= least
		}
	}
	for _, by := range choice {
		for _, i := range choice {
			for _, j := range choice {
				goes[i][j] = goes[i][j] || goes[i][by] && goes[by][j]
			}
		}
	}
	return slices.DeleteFunc(slices.Clone(choice), func(other int) bool { return !goes[lot][other] })
}

func (k known) loss(choice []int, lot int) api.Span {
	var s api.Span
	for _, other := range k.burns(choice, lot, 2) {
		s.Low += k.Yard.Lots[other].Room.Low
	}
	for _, other := range k.burns(choice, lot, 1) {
		s.High += k.Yard.Lots[other].Room.High
	}
	return s
}

func (k known) worst(choice []int) (int, api.Errno) {
	if len(choice) == 0 {
		return 0, api.ErrNone
	}
	return slices.MinFunc(choice, func(a, b int) int { return k.loss(choice, b).High - k.loss(choice, a).High }), api.OK
}

// withBucket returns a book with one bucket more.
func withBucket(b api.InsureBook, s api.YardSpot) api.InsureBook {
	b.Yard.Buckets = append(slices.Clone(b.Yard.Buckets), s)
	return b
}

func (k known) bucket(p api.InsurePlan) (int, api.Errno) {
	place, least, e := 0, k.premium(p).High, api.ErrNone
	for i, s := range k.Yard.Spare {
		if n := know(withBucket(k.InsureBook, s)).premium(p).High; n < least {
			place, least, e = i, n, api.OK
		}
	}
	return place, e
}

// allChoices returns all choices of so many lots, in their order.
func allChoices(lots int) [][]int {
	var all [][]int
	for set := range 1 << lots {
		var choice []int
		for lot := range lots {
			if set>>lot&1 == 1 {
				choice = append(choice, lot)
			}
		}
		all = append(all, choice)
	}
	slices.SortFunc(all, slices.Compare)
	return all
}

// allSets returns all settings of so many parts, in their order.
func allSets(parts int) [][]int {
	all := [][]int{nil}
	for range parts {
		var next [][]int
		for _, before := range all {
			for damper := range 4 {
				next = append(next, append(slices.Clone(before), damper))
			}
		}
		all = next
	}
	return all
}

// rated is a plan with its goods at least, and its premium at most.
type rated struct {
	api.InsurePlan
	goods, asked int
}

// allPlans returns all plans, in the order of their choices, then of their settings.
func (k known) allPlans() []rated {
	var all []rated
	for _, choice := range allChoices(len(k.Yard.Lots)) {
		for _, set := range allSets(len(k.Tunnel.Parts)) {
			p := api.InsurePlan{Choice: choice, Set: set}
			all = append(all, rated{p, k.causes(p)[0].Low, k.premium(p).High})
		}
	}
	return all
}

// first returns the first one of the plans that do for which nothing is less.
func first(all []rated, does func(p rated) bool, less func(p, q rated) int) (api.InsurePlan, api.Errno) {
	all = slices.DeleteFunc(slices.Clone(all), func(p rated) bool { return !does(p) })
	if len(all) == 0 {
		return api.InsurePlan{}, api.ErrNone
	}
	return slices.MinFunc(all, less).InsurePlan, api.OK
}

func cheapestOf(all []rated, want int) (api.InsurePlan, api.Errno) {
	return first(all, func(p rated) bool { return p.goods >= want }, func(p, q rated) int { return p.asked - q.asked })
}

func mostOf(all []rated, pay int) (api.InsurePlan, api.Errno) {
	return first(all, func(p rated) bool { return p.asked <= pay }, func(p, q rated) int {
		if p.goods != q.goods {
			return q.goods - p.goods
		}
		return p.asked - q.asked
	})
}

// partsOf deals out a number one by one.
func partsOf(all, many int) []int {
	list := make([]int, many)
	for i := range all {
		list[i%many]++
	}
	return list
}

// someSpots returns so many spots near the corner of a yard.
func someSpots(r *rand.Rand, n, side int) []api.YardSpot {
	var all []api.YardSpot
	for range n {
		all = append(all, at(r.Intn(side), r.Intn(side)))
	}
	return all
}

// someYard returns a valid yard of so many lots, whose distances can be wrong by so much.
func someYard(r *rand.Rand, lots, wrong int) api.YardBook {
	side := 4 + r.Intn(14)
	y := api.YardBook{
		Doors: someSpots(r, 1+r.Intn(3), side), Buckets: someSpots(r, r.Intn(4), side), Spare: someSpots(r, min(r.Intn(6), 3), side),
		Apart: r.Intn(side), Door: side/2 + wrong + r.Intn(side), Bucket: wrong + r.Intn(side), Error: wrong,
	}
	for _, s := range someSpots(r, lots, side) {
		low := r.Intn(6)
		y.Lots = append(y.Lots, api.YardLot{At: s, Room: to(low, low+r.Intn(5))})
	}
	return y
}

// someTunnel returns a valid tunnel of so many parts and frames, whose damps are up to so wide.
func someTunnel(r *rand.Rand, parts, frames, wide int) api.TunnelBook {
	var b api.TunnelBook
	var damps [api.TunnelParts]int
	set := make([]int, parts)
	for i := range parts {
		heat := [4]int{r.Intn(6), r.Intn(9), r.Intn(12), r.Intn(15)}
		slices.Sort(heat[:])
		low := r.Intn(6)
		b.Parts = append(b.Parts, api.TunnelPart{Heat: heat, Damp: to(low, low+r.Intn(wide+1))})
		damps[i], set[i] = low, r.Intn(4)
	}
	for f := range frames {
		stay := make([]int, parts)
		for i := range stay {
			stay[i] = r.Intn(8)
		}
		b.Frames = append(b.Frames, api.TunnelFrame{Stay: stay})
		n := dryIn(b, damps, set, f)
		b.Frames[f].Need = to(max(0, n-r.Intn(20)), n+r.Intn(12))
	}
	return b
}

func someRates(r *rand.Rand) api.InsureRates {
	more := 1 + r.Intn(2)*r.Intn(3)
	some := func(most int) int { return more * max(0, r.Intn(most+3)-2) }
	return api.InsureRates{Good: some(3), Near: some(20), Served: some(20), Heat: some(3), Frame: some(30)}
}

// tinyBook returns a valid book that has so few truths that all of them can be tried out.
func tinyBook(r *rand.Rand) api.InsureBook {
	for {
		y := api.YardBook{
			Doors: someSpots(r, 1+r.Intn(2), 4), Buckets: someSpots(r, (1+r.Intn(5))/2, 4), Spare: someSpots(r, r.Intn(3), 4),
			Apart: r.Intn(6), Door: 2 + r.Intn(6), Bucket: 1 + r.Intn(6), Error: (1 + r.Intn(5)) / 2,
		}
		for _, s := range someSpots(r, 1+r.Intn(4), 5) {
			low := r.Intn(4)
			y.Lots = append(y.Lots, api.YardLot{At: s, Room: to(low, low+r.Intn(2))})
		}
		b := api.InsureBook{Yard: y, Tunnel: someTunnel(r, 1+r.Intn(2), r.Intn(4), 2), Rates: someRates(r)}
		if n := truths(b); n > 30 && n <= 20000 {
			return b
		}
	}
}

// tinyBooks returns the same books at each call.
func tinyBooks(n int) []api.InsureBook {
	r := rand.New(rand.NewSource(1))
	var books []api.InsureBook
	for range n {
		books = append(books, tinyBook(r))
	}
	return books
}

// someBook returns a valid book of so many lots and parts.
func someBook(r *rand.Rand, lots, parts int) api.InsureBook {
	return api.InsureBook{Yard: someYard(r, lots, r.Intn(3)), Tunnel: someTunnel(r, parts, r.Intn(6), 3), Rates: someRates(r)}
}

// someBooks returns the same books at each call: most of them of few parts, some as large as can be.
func someBooks(n int) []api.InsureBook {
	r := rand.New(rand.NewSource(2))
	var books []api.InsureBook
	for i := range n {
		b := someBook(r, 1+i%api.YardLots, 1+i%2)
		switch {
		case i%40 == 13: // 7 lots and 4 parts
			b.Tunnel = someTunnel(r, api.TunnelParts, 1+r.Intn(5), 3)
		case i%5 == 0: // far more can be wrong, if there are few ways to try out
			y := &b.Yard
			y.Error = r.Intn(api.YardError + 1)
			y.Doors, y.Buckets, y.Spare = y.Doors[:1], y.Buckets[:min(1, len(y.Buckets))], y.Spare[:min(1, len(y.Spare))]
			y.Apart, y.Door, y.Bucket = r.Intn(20), y.Error+r.Intn(24), y.Error+r.Intn(24)
		}
		books = append(books, b)
	}
	return books
}

// somePlan returns a plan of a book.
func somePlan(r *rand.Rand, b api.InsureBook) api.InsurePlan {
	choices := allChoices(len(b.Yard.Lots))
	p := api.InsurePlan{Choice: choices[r.Intn(len(choices))]}
	for range b.Tunnel.Parts {
		p.Set = append(p.Set, r.Intn(4))
	}
	return p
}
